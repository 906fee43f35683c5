/- Drawn lists of labels: l14List. -/
import Derived.Test.YthpgbmglgmjjhaaDoorGDraw
import Derived.Test.YthpgbmglgmjjhaaDoorRdNew
import Derived.Test.YthpgbmglgmjjhaaDoorSortS
namespace Go.Proofs.YthpgbmglgmjjhaaDoor.draw
open Go.ChangeShapes Go.WideShapes Go.ChangeAt Go.RowKit ty lab
set_option linter.unusedVariables false

/-- A list of labels of the call's own is handed back; nothing but the cursor's block (and new blocks) turns. -/
def GotL (P : List Label → Prop) (c : Nat) (A : Option Addr) (len cap : Nat) (z : Nat → Int) (w : World) (e : Ending) (w' : World) : Prop :=
  ∃ (l : List Label) (v : Value) (f : Nat) (F : List Nat), P l ∧ e = .returned v ∧ Own w' w.heap.size (f + 1) v (.sl 2 l.length (l.flatMap Label.row)) F ∧ F.Nodup ∧ Cur w' c A len cap z ∧ w.grownBy w' (some c)
def Tiny (m : Nat) (l : List Label) : Prop := ∀ x ∈ l, x.key.size ≤ m ∧ x.value.size ≤ m
theorem Tiny.wf {m : Nat} {l : List Label} (h : Tiny m l) (hm : m ≤ 1000) : ∀ x ∈ l, x.Wf := fun x hx => by
  have := h x hx
  exact ⟨by unfold maxLen; omega, by unfold maxLen; omega⟩
theorem Tiny.small {m : Nat} {l : List Label} (h : Tiny m l) (hm : m ≤ 1000) : Small l := fun x hx => by
  have := h x hx
  exact ⟨by omega, by omega⟩
theorem Tiny.snoc {m : Nat} {l : List Label} (h : Tiny m l) {x : Label} (h1 : x.key.size ≤ m) (h2 : x.value.size ≤ m) : Tiny m (l ++ [x]) := fun y hy => by
  rcases List.mem_append.1 hy with hy | hy
  · exact h y hy
  · rw [List.mem_singleton] at hy; subst hy; exact ⟨h1, h2⟩
theorem Tiny.sorted {m : Nat} {l : List Label} (h : Tiny m l) : Tiny m (sorted l) := fun y hy => by
  rcases sorted_mem l [] hy with hy | hy
  · exact h y hy
  · cases hy
/-- Own blocks are kept where only the cursor's block turns. -/
theorem own_cur {w w' : World} {c B f : Nat} {v : Value} {d : C} {F : List Nat} (h : Own w B f v d F) (hB : c < B) (hg : w.grownBy w' (some c)) : Own w' B f v d F :=
  h.kept fun x hx => hg.block x (h.range x hx).2 (fun e => by have := (h.range x hx).1; injection e with e; omega)
theorem row_cur {w w' : World} {B c k : Nat} {e : TypeId} {v : Value} {n : Nat} {xs : List Value} (h : w.ownsRow B e k v n xs) (hB : c < B) (hg : w.grownBy w' (some c)) : w'.ownsRow B e k v n xs :=
  h.kept hg (by
    cases hv : v.ownBlock with
    | none => exact .inl rfl
    | some q => exact .inr (fun e => by
        have := (h.lt q hv).1
        injection e with e
        omega))
set_option maxRecDepth 1000000 in
set_option maxHeartbeats 8000000 in
theorem labs_any (c : Nat) (A : Option Addr) (len cap : Nat) (z : Nat → Int) (w : World) (hc : Cur w c A len cap z) :
    Calls Tryd.prog 46 #[.pointer (some ⟨c, 0, none⟩)] w (GotL (fun l => l.length ≤ 6 ∧ Tiny 5 l) c A len cap z w) := by
  obtain ⟨i0, hi, hz0, hz1, hz2⟩ := info_parts TrydinfoLab
  have hclt := hc.lt
  have hown0 : (w.alloc (.cells #[] 35)).ownsRow w.heap.size 35 2 (.slice (some ⟨w.heap.size, 0, none⟩) 0 0) 0 (lvals []) := World.ownsRow_lit w #[] 0 (Nat.le_refl _) (by simp [maxLen]) rfl
  obtain ⟨F0, ho0, hn0, _⟩ := own_lvals (l := []) hown0 (by intro x hx; cases hx)
  have Ho0 := Lib.hid ho0
  have Hn0 := Lib.hid hn0
  have Hc0 := Lib.hid (cur_alloc hc (.cells #[] 35))
  have Hg0 := Lib.hid (grown_alloc w (.cells #[] 35) (some c))
  clear hc hown0 ho0 hn0
  go_enter Tryd.func46, Tryd.ntmps46
  go_wp2_with fail
  go_loopw [3, 4] (fun vo i wr => ∃ (j : Nat) (l : List Label) (f : Nat) (F : List Nat), j ≤ 4 ∧ i = .int .i64 j ∧ l.length ≤ 6 ∧ Hid (Tiny 5 l) ∧ Own wr w.heap.size (f + 1) vo (.sl 2 l.length (l.flatMap Label.row)) F ∧ Hid F.Nodup ∧ Cur wr c A len cap z ∧ w.grownBy wr (some c)) (fun _ i _ => 4 - (intOf i).toNat)
  case atStart => exact ⟨0, [], 1, F0, by omega, rfl, by simp, (by intro x hx; cases hx), Ho0.out, Hn0.out, Hc0.out, Hg0.out⟩
  case round =>
    clear Ho0 Hn0 Hc0 Hg0
    obtain ⟨j, l, f, F, hj, rfl, hl6, htiny, ho, hnd, hcur, hgr⟩ := hrel
    have HB := Lib.hid (below_any c A len cap z 4 wr hcur (by decide) (by decide))
    obtain ⟨Ao, co, rfl, hco1, hco2, _⟩ := els_of Label.row_length ho.lies
    unfold maxLen at hco2
    have Ho := Lib.hid ho
    have Hgr := Lib.hid hgr
    clear ho hgr hcur
    go_wp2_with fail
    refine HB.out.mono ?_
    rintro e w1 ⟨x, hx, rfl, hc1, hg1⟩
    have ho1 := own_cur Ho.out hclt hg1
    have Ho1 := Lib.hid ho1
    have Hgr1 := Lib.hid (grown_trans Hgr.out hg1)
    have Hc1 := Lib.hid hc1
    have hclt1 := hc1.lt
    obtain ⟨A', c', hA', _, _, f', hf', hels⟩ := els_of Label.row_length ho1.lies
    injection hA' with a1 a2 a3
    subst a1 a3
    obtain ⟨hrd, _⟩ := rdk_of_els hels
    have hrd2 := hrd.below ((Below.refl w1.heap.size w1).alloc (Nat.le_refl _) (.cells #[] 35))
    have Hrd2 := Lib.hid hrd2
    have Hlit := Lib.hid (show (w1.alloc (.cells #[] 35)).ownsRow w1.heap.size 35 2 (.slice (some ⟨w1.heap.size, 0, none⟩) 0 0) 0 [] from World.ownsRow_lit w1 #[] 0 (Nat.le_refl _) (by simp [maxLen]) rfl)
    clear hg1 hc1 ho1 hels hrd hrd2 hf' Ho Hgr HB
    by_cases hlt : (j : Int) < x
    · have hj3 : j + 1 ≤ 4 := by omega
      go_wp2_with (first | (at_builtin; refine wpList_append_rdk rfl (.tmp 15) (.tmp 16) 24 rfl w1.heap.size 35 i0 _ 2 32 Tryd.underlying24 hi hz0 hz1 hz2 rfl (by decide) _ 0 [] rfl Hlit.out Ao l.length co (lvals l) rfl Hrd2.out (lvals_ones l) (by unfold maxLen; omega) (by omega) (by simp) ?_) | fail)
      intro v3 w3 hown3 hg3 hat3
      obtain ⟨A3, c3, rfl⟩ := own_is_slice hown3
      have hb3 := Below.grown ((Below.refl w1.heap.size w1).alloc (Nat.le_refl _) (.cells #[] 35)) hg3 (by simp) (fun b hb => by simp [Value.ownBlock] at hb; omega)
      have Hb3 := Lib.hid hb3
      have Hown3 := Lib.hid hown3
      have HK := Lib.hid (labKey_any c A len cap z w3 (Hc1.out.below (hb3.mono (show c + 1 ≤ w1.heap.size from hclt1)) (Nat.lt_succ_self c)))
      clear hown3 hg3 hat3 hb3 Hlit Hrd2
      go_wp2_with fail
      refine HK.out.mono ?_
      rintro e w4 ⟨k, hk, rfl, hc4, hg4⟩
      have HV := Lib.hid (labVal_any c A len cap z w4 hc4)
      have Hg4 := Lib.hid hg4
      clear hc4 hg4 HK
      go_wp2_with fail
      refine HV.out.mono ?_
      rintro e w5 ⟨y, hy, rfl, hc5, hg5⟩
      have Hown5 := Lib.hid (row_cur (row_cur Hown3.out hclt1 Hg4.out) hclt1 hg5)
      have Hg5 := Lib.hid (grown_trans (grown_trans (grown_of_below Hb3.out (some c)) Hg4.out) hg5)
      have Hc5 := Lib.hid hc5
      have hs5 : w1.heap.size ≤ w5.heap.size := Hg5.out.size
      clear hc5 hg5 HV Hown3 Hb3 Hg4
      go_wp2_with (first | (at_builtin; refine wpList_append_rdk rfl (.tmp 17) (.tmp 23) 24 rfl w1.heap.size 35 i0 _ 2 32 Tryd.underlying24 hi hz0 hz1 hz2 rfl (by decide) _ l.length _ rfl (own_below' Hown5.out ((Below.refl _ _).alloc (Nat.le_refl _) _)) (some ⟨w5.heap.size, 0, none⟩) 1 1 [.string k, .string y] rfl (rdk_new w5 k y) (by intro u hu; simp at hu; rcases hu with rfl | rfl <;> rfl) (by unfold maxLen; omega) (by omega) (by simp; omega) ?_) | fail)
      intro v7 w7 hown7 hg7 hat7
      obtain ⟨xl, hxl⟩ : ∃ q : Label, q = ⟨k, y⟩ := ⟨_, rfl⟩
      have hown8 : w7.ownsRow w1.heap.size 35 2 v7 (l ++ [xl]).length (lvals (l ++ [xl])) := by rw [lvals_append, lvals_one, List.length_append, hxl]; exact hown7
      have hb7 : Below w1.heap.size w5 w7 := Below.grown ((Below.refl w1.heap.size w5).alloc hs5 _) hg7 (by simp; omega) (fun b hb => (Hown5.out.lt b hb).1)
      have Hg7 := Lib.hid (grown_below Hg5.out (hb7.mono (Nat.le_refl _)))
      have Hc7 := Lib.hid (Hc5.out.below (hb7.mono (show c + 1 ≤ w1.heap.size from hclt1)) (Nat.lt_succ_self c))
      have htl : Tiny 5 (l ++ [xl]) := by rw [hxl]; exact htiny.out.snoc hk (by show y.size ≤ 5; omega)
      obtain ⟨A7, c7, rfl⟩ := own_is_slice hown8
      obtain ⟨F7, ho7, hn7, _⟩ := own_lvals hown8 (htl.wf (by omega))
      have HS := Lib.hid (spec_sort (l ++ [xl]) _ _ w7 ho7.lies (htl.small (by omega)) (by simp; omega))
      have Hgood : Hid ((sortF (l ++ [xl])).2 = true → (sortF (l ++ [xl])).1.length ≤ 6 ∧ Tiny 5 (sortF (l ++ [xl])).1) := fun h => by
        unfold sortF at h ⊢
        split at h
        · next h3 => rw [if_pos h3]; exact ⟨h3.2.1, htl.sorted⟩
        · cases h
      have hs7 : w1.heap.size ≤ w7.heap.size := Hg7.out.size
      rw [List.length_append, List.length_singleton] at HS
      clear hown7 hown8 hg7 hat7 hb7 ho7 hn7 htl Hown5 Hg5 Hc5
      generalize sortF (l ++ [xl]) = r at HS Hgood
      obtain ⟨r1, r2⟩ := r
      go_wp2_with fail
      refine HS.out.mono ?_
      rintro e w8 ⟨v8, f8, F8, rfl, ho8, hn8, hb8⟩
      have Ho8 := Lib.hid (ho8.lower (show w.heap.size ≤ w7.heap.size from Nat.le_trans Hgr1.out.size hs7))
      have Hn8 := Lib.hid hn8
      have Hg8 := Lib.hid (grown_below Hg7.out (hb8.mono hs7))
      have Hc8 := Lib.hid (Hc7.out.below (hb8.mono (show c + 1 ≤ w7.heap.size by omega)) (Nat.lt_succ_self c))
      have Ho18 := Lib.hid (own_cur Ho1.out hclt Hg8.out)
      have Hgr8 := Lib.hid (grown_trans Hgr1.out Hg8.out)
      obtain ⟨A8, c8, rfl, _, _, _⟩ := els_of Label.row_length ho8.lies
      clear ho8 hn8 hb8 HS Hg7 Hc7
      cases r2 with
      | true =>
        have hgd := Hgood.out rfl
        have Htg := Lib.hid hgd.2
        have hr6 : r1.length ≤ 6 := hgd.1
        clear hgd Hgood
        go_wp2_with fail
        go_roundw
        case rel => exact ⟨j + 1, r1, f8, F8, hj3, by go_num, hr6, Htg.out, Ho8.out, Hn8.out, Hc8.out, Hgr8.out⟩
        case measure => simp [intOf]; omega
      | false =>
        clear Hgood
        go_wp2_with fail
        go_roundw
        case rel => exact ⟨j + 1, l, f, F, hj3, by go_num, hl6, htiny.out, Ho18.out, hnd.out, Hc8.out, Hgr8.out⟩
        case measure => simp [intOf]; omega
    · go_wp2_with fail
      go_ret
      exact ⟨l, _, f, F, ⟨hl6, htiny.out⟩, rfl, Ho1.out, hnd.out, Hc1.out, Hgr1.out⟩
end Go.Proofs.YthpgbmglgmjjhaaDoor.draw
