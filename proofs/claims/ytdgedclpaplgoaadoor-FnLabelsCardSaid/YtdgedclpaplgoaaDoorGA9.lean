/- Merged: RdLI LabAtI SameLI SameLL. -/
import Derived.Test.YtdgedclpaplgoaaDoorGA7
import Derived.Test.YtdgedclpaplgoaaDoorGA8
import Derived.Test.YtdgedclpaplgoaaDoorLabI
import Derived.Test.YtdgedclpaplgoaaDoorGA5
import Derived.Test.YtdgedclpaplgoaaDoorGA3
import Derived.Laws.Cover1
import Derived.Test.YtdgedclpaplgoaaDoorGA0
namespace Go.Proofs.YtdgedclpaplgoaaDoor.lab
open Go.ChangeShapes Go.WideShapes Go.ChangeAt Go.RowKit ty cut
set_option linter.unusedVariables false

theorem lit_rdk (w : World) (x y : ByteArray) : RdK (w.alloc (.cells #[.string x, .string y] 35)) (some ⟨w.heap.size, 0, none⟩) 1 2 [.string x, .string y] := by
  refine ⟨rfl, fun _ => ⟨w.heap.size, 0, rfl, by simp, fun j u hu => ?_⟩⟩
  have := lit_cells w #[.string x, .string y] 35 j u hu
  rwa [Addr.add_lit] at this
/-- No label and a no. -/
theorem out_none (w w' : World) (hb : Below w.heap.size w w') : ListOut w w' (.returned (.tuple #[.slice none 0 0, .bool false])) 2 Label.row (([] : List Label), false) := by
  obtain ⟨F, ho, hnd, _⟩ := own_lvals (w := w') (B := w.heap.size) (e := 0) (v := .slice none 0 0) (l := []) ⟨rfl, .inl ⟨rfl, rfl⟩⟩ (fun x hx => by cases hx)
  exact ⟨_, 1, F, rfl, ho, hnd, hb⟩
theorem pairC_size {p : ByteArray} {x : Label} (h : pairC p = some x) : x.key.size ≤ p.size ∧ x.value.size ≤ p.size := by
  have h1 := congrArg List.length (pairC_is h).1
  unfold pairB at h1
  rw [List.length_append, List.length_cons] at h1
  simp only [Array.length_toList] at h1
  have e1 : p.data.size = p.size := rfl
  have e2 : x.key.data.size = x.key.size := rfl
  have e3 : x.value.data.size = x.value.size := rfl
  omega
theorem pairsC_wf : ∀ (a : List ByteArray) (l : List Label), (∀ p ∈ a, p.size ≤ maxLen) → pairsC a = some l → ∀ x ∈ l, x.Wf
  | [], l, _, h => by simp [pairsC] at h; subst h; intro x hx; cases hx
  | q :: r, l, hs, h => by
    rw [pairsC] at h
    cases hq : pairC q with
    | none => rw [hq] at h; simp at h
    | some y =>
      cases hr : pairsC r with
      | none => rw [hq, hr] at h; simp at h
      | some m =>
        rw [hq, hr] at h
        simp at h
        subst h
        intro x hx
        rcases List.mem_cons.1 hx with rfl | hx
        · have h1 := pairC_size hq
          have h2 := hs q List.mem_cons_self
          exact ⟨by omega, by omega⟩
        · exact pairsC_wf r m (fun p hp => hs p (List.mem_cons_of_mem _ hp)) hr x hx
set_option maxRecDepth 100000 in
set_option maxHeartbeats 8000000 in
theorem impl_read (s : ByteArray) (w : World) (hs : s.size ≤ 1048576) (hM : line.MaxL w) :
    Calls Tryd.prog 13 #[.string s] w fun e w' => ListOut w w' e 2 Label.row (readF s) := by
  rw [← readI_is]
  obtain ⟨i0, hi, hz0, hz1, hz2⟩ := info_parts TrydinfoLab
  by_cases hd : s = ⟨#[45]⟩
  · subst hd
    have e : readI ⟨#[45]⟩ = ([], true) := by unfold readI; rw [if_pos rfl]
    rw [e]
    have HR : Hid (ListOut w (w.alloc (.cells #[] 35)) (.returned (.tuple #[.slice (some ⟨w.heap.size, 0, none⟩) 0 0, .bool true])) 2 Label.row (([] : List Label), true)) := by
      obtain ⟨F, ho, hnd, _⟩ := own_lvals (l := []) (World.ownsRow_lit (e := 35) (size := 2) w #[] 0 (Nat.le_refl _) (by simp [maxLen]) rfl) (fun x hx => by cases hx)
      exact ⟨_, 1, F, rfl, ho, hnd, (Below.refl _ _).alloc (Nat.le_refl _) _⟩
    clear e hs hM hi hz0 hz1 hz2
    go_enter Tryd.func13, Tryd.ntmps13
    go_wp2_with fail
    go_ret2
    exact HR.out
  have hsd : (s.toList == [45]) = false := by
    have := same_no hd
    simpa [ByteArray.toList_eq] using this
  obtain ⟨m, hm⟩ := hM
  have H0 := Lib.hid hm
  obtain ⟨w1, hw1⟩ : ∃ w1, w1 = w.alloc (.cells #[] 35) := ⟨_, rfl⟩
  have Hown1 := Lib.hid (show w1.ownsRow w.heap.size 35 2 (.slice (some ⟨w.heap.size, 0, none⟩) 0 0) 0 (lvals []) by rw [hw1]; exact World.ownsRow_lit w #[] 0 (Nat.le_refl _) (by simp [maxLen]) rfl)
  have Hb1 := Lib.hid (show Below w.heap.size w w1 by rw [hw1]; exact (Below.refl _ _).alloc (Nat.le_refl _) _)
  have hm1 : w1.cell? ⟨0, 0, none⟩ = some (.int .i64 m) := (Hb1.out.cell (World.block_lt_of_cell? _ _ hm)).trans hm
  have Hm := Lib.hid (fun w' (hb : Below w1.heap.size w1 w') => (hb.cell (World.block_lt_of_cell? _ _ hm1)).trans hm1)
  have HSp := Lib.hid (Tryd.strings_Split s ⟨#[44]⟩ m w1 (by omega) hm1 (by decide))
  have hlen : Lib.countB s ⟨#[44]⟩ + 1 = (cutF s 44).length := by rw [← splitB_is, splitB_len]
  rw [splitB_is, hlen] at HSp
  have Hcs := Lib.hid (fun p hp => Nat.le_trans (cut_sizes s 44 p hp) hs)
  have hcl := cut_le s 44
  have hpos := cut_pos s 44
  have Hn := Lib.hid (fun h => readI_none hd h)
  have Hbd := Lib.hid (fun l h h2 => readI_bad (l := l) hd h h2)
  have Hgd := Lib.hid (fun l h h2 => readI_good (l := l) hd h h2)
  have Hw1 := Lib.hid hw1
  generalize cutF s 44 = ps at HSp Hcs hcl hpos Hn Hbd Hgd
  generalize readI s = R at Hn Hbd Hgd ⊢
  clear hd hm hm1 hw1 hlen
  go_enter Tryd.func13, Tryd.ntmps13
  go_wp2_with fail
  rw [← Hw1.out]
  refine HSp.out.mono ?_
  rintro e w2 ⟨rfl, hw2⟩
  have hg1 : w.heap.size < w1.heap.size := (Hown1.out.lt _ rfl).2
  have Hrow : Hid (∀ (i : Nat) (h : i < ps.length), w2.cell? ⟨w1.heap.size, i, none⟩ = some (.string ps[i])) := fun i h => by
    rw [hw2]
    have := lit_cells w1 (ps.map Value.string).toArray 9 i (.string ps[i]) (by simp [h])
    rwa [Addr.add_lit, Nat.zero_add] at this
  have hb2 : Below w1.heap.size w1 w2 := by rw [hw2]; exact (Below.refl _ _).alloc (Nat.le_refl _) _
  have hgp2 : w1.heap.size < w2.heap.size := by rw [hw2]; simp
  have Hown2 := Lib.hid (own_below' Hown1.out hb2)
  have Hb2 := Lib.hid (Hb1.out.trans (hb2.mono Hb1.out.size))
  have Hm2 := Lib.hid (fun w' (hb : Below w2.heap.size w2 w') => Hm.out w' (hb2.trans (hb.mono hb2.size)))
  obtain ⟨gp, hgp⟩ : ∃ gp, gp = w1.heap.size := ⟨_, rfl⟩
  rw [← hgp] at Hrow hgp2 hg1 ⊢
  clear hw2 HSp Hw1 Hown1 Hb1 hsd hb2 Hm hgp
  go_wp2_with fail
  go_loopw [4, 17] (fun vo i wr => ∃ (j : Nat) (l : List Label), j ≤ ps.length ∧ i = .int .i64 j ∧ wr.ownsRow w.heap.size 35 2 vo j (lvals l) ∧ Hid (pairsC (ps.take j) = some l) ∧ vo.ownBlock ≠ some gp ∧ gp < wr.heap.size ∧ wr.heap[gp]? = w2.heap[gp]? ∧ Below w.heap.size w wr ∧ wr.cell? ⟨0, 0, none⟩ = some (.int .i64 m)) (fun _ i _ => ps.length - (intOf i).toNat)
  case atStart => exact ⟨0, [], Nat.zero_le _, rfl, Hown2.out, by simp [Hid, pairsC], by simp [Value.ownBlock]; omega, hgp2, rfl, Hb2.out, Hm2.out w2 (Below.refl _ _)⟩
  case round =>
    clear Hown2 Hb2 Hm2
    obtain ⟨j, l, hj, rfl, hown, hpairs, hne, hgw, hkeep, hbel, hm⟩ := hrel
    by_cases hlt : j < ps.length
    · have q0 : wr.cell? ⟨gp, j, none⟩ = some (.string ps[j]) := (World.cell?_of_block hkeep).trans (Hrow.out j hlt)
      have hpz := Hcs.out ps[j] (List.getElem_mem hlt)
      have HC := Lib.hid (Tryd.strings_Cut ps[j] ⟨#[61]⟩ m wr (by omega) hm)
      have Hown := Lib.hid hown
      have Hbel := Lib.hid hbel
      have Hkeep := Lib.hid hkeep
      have Hne := Lib.hid hne
      have Hm := Lib.hid hm
      have Htk := Lib.hid (show ps.take (j + 1) = ps.take j ++ [ps[j]] from List.take_succ_eq_append_getElem hlt)
      have Hmem := Lib.hid (show ps[j] ∈ ps from List.getElem_mem hlt)
      clear hown hbel hkeep hne hm hpz
      generalize ps[j] = p at q0 HC Htk Hmem
      have hsz : w.heap.size ≤ wr.heap.size := Hbel.out.size
      have HC2 : Hid _ := HC
      clear HC
      rw [show (⟨#[61]⟩ : ByteArray).data.toList = [61] from rfl] at HC2
      cases hf : (Lib.cut p.data.toList [61]).2.2 with
      | false =>
        have HR := Lib.hid (Hn.out (pairsC_dead ps p Hmem.out (pairC_no hf)))
        rw [hf] at HC2
        generalize (⟨(Lib.cut p.data.toList [61]).1.toArray⟩ : ByteArray) = a at HC2
        generalize (⟨(Lib.cut p.data.toList [61]).2.1.toArray⟩ : ByteArray) = b at HC2
        clear hf hpairs
        go_wp2_with fail
        refine HC2.out.mono ?_
        rintro e w3 ⟨rfl, n3, rfl⟩
        go_wp2_with fail
        go_ret2
        rw [HR.out]
        exact out_none _ _ (below_drewN Hbel.out n3)
      | true =>
        have Hpair := Lib.hid (pairsC_snoc _ _ _ _ hpairs.out (pairC_yes hf))
        rw [hf] at HC2
        rw [show mk (Lib.cut p.data.toList [61]).1 = (⟨(Lib.cut p.data.toList [61]).1.toArray⟩ : ByteArray) from rfl, show mk (Lib.cut p.data.toList [61]).2.1 = (⟨(Lib.cut p.data.toList [61]).2.1.toArray⟩ : ByteArray) from rfl] at Hpair
        generalize (⟨(Lib.cut p.data.toList [61]).1.toArray⟩ : ByteArray) = a at HC2 Hpair
        generalize (⟨(Lib.cut p.data.toList [61]).2.1.toArray⟩ : ByteArray) = b at HC2 Hpair
        clear hf hpairs
        go_wp2_with fail
        refine HC2.out.mono ?_
        rintro e w3 ⟨rfl, n3, hw3⟩
        have hb3 : Below wr.heap.size wr w3 := by rw [hw3]; exact below_drewN (Below.refl _ _) n3
        have Hown3 := Lib.hid (own_below' Hown.out hb3)
        have Hb3 := Lib.hid (Hbel.out.trans (hb3.mono hsz))
        have Hkeep3 := Lib.hid ((hb3.block gp hgw).trans Hkeep.out)
        have hgw3 : gp < w3.heap.size := Nat.lt_of_lt_of_le hgw hb3.size
        have hsz3 : w.heap.size ≤ w3.heap.size := Hb3.out.size
        have Hm3 := Lib.hid ((hb3.cell (World.block_lt_of_cell? _ _ Hm.out)).trans Hm.out)
        have hjn : j ≤ 1048577 := by omega
        have Hjn := Lib.hid hjn
        clear hw3 hb3 HC2 hjn
        go_wp2_with (at_builtin; refine wpList_append_rdk rfl (.tmp 29) (.tmp 33) 24 rfl w.heap.size 35 i0 _ 2 32 Tryd.underlying24 hi hz0 hz1 hz2 rfl (by decide) _ j _ rfl (Hown3.out.alloc _) (some ⟨w3.heap.size, 0, none⟩) 1 1 [.string a, .string b] rfl (by exact lit_rdk _ _ _) (by intro u hu; simp at hu; rcases hu with rfl | rfl <;> rfl) (by have := Hjn.out; unfold maxLen; omega) (by have := Hjn.out; omega) (by simp; omega) ?_; intro v4 w4 hown4 hg4 hat4)
        have hgY : gp < (w3.alloc (.cells #[.string a, .string b] 35)).heap.size := by simp; omega
        have Hkeep4 := Lib.hid (((hg4.block gp hgY (fun e => Hne.out e.symm)).trans (Below.heap_alloc w3 _ gp hgw3)).trans Hkeep3.out)
        have Hown4 := Lib.hid hown4
        have Hne4 := Lib.hid (show v4.ownBlock ≠ some gp from fun e => by
          rcases hat4 with h | h
          · exact Hne.out (h.symm.trans e)
          · rw [h] at e
            injection e with e
            exact Nat.lt_irrefl _ (Nat.lt_of_lt_of_eq hgY e))
        have hgw4 : gp < w4.heap.size := Nat.lt_of_lt_of_le hgY hg4.size
        have Hb4 := Lib.hid (Below.grown (Hb3.out.alloc hsz3 _) hg4 (by simp; omega) (fun b hb => (Hown3.out.lt b hb).1))
        have Hm4 := Lib.hid (show w4.cell? ⟨0, 0, none⟩ = some (.int .i64 m) from (Hb4.out.cell (World.block_lt_of_cell? _ _ H0.out)).trans H0.out)
        clear hown4 hg4 hat4
        go_wp2_with fail
        go_roundw
        case rel => exact ⟨j + 1, l ++ [⟨a, b⟩], by omega, by go_num, by rw [lvals_append, lvals_one]; exact Hown4.out, by rw [Htk.out]; exact Hpair.out, Hne4.out, hgw4, Hkeep4.out, Hb4.out, Hm4.out⟩
        case measure => simp [intOf]; omega
    · obtain rfl : j = ps.length := by omega
      have hpr := hpairs.out
      rw [List.take_length] at hpr
      have hlen := (pairsC_join ps l hpr).2
      rw [← hlen] at hown
      obtain ⟨Av, cv, rfl⟩ := own_is_slice hown
      obtain ⟨F, ho, hnd, _⟩ := own_lvals hown (pairsC_wf ps l (fun p hp => by have := Hcs.out p hp; unfold maxLen; omega) hpr)
      have HC := Lib.hid (impl_labels_any l _ _ wr ho.lies)
      have HR := Lib.hid (fun w3 (hb : Below wr.heap.size wr w3) => show ListOut w w3 (.returned (.tuple #[.slice Av l.length cv, .bool true])) 2 Label.row (l, true) from ⟨_, 1, F, rfl, ho.below hb, hnd, hbel.trans (hb.mono hbel.size)⟩)
      have Hbel := Lib.hid hbel
      rw [← hlen]
      clear hown hbel ho hnd hpairs hlt hj hkeep hne hlen hcl hpos hm
      by_cases hP : LabelsP l
      · rw [yes_t hP] at HC
        have HS := Lib.hid (Hgd.out l hpr hP)
        clear hP hpr
        go_wp2_with fail
        refine HC.out.mono ?_
        rintro e w4 ⟨rfl, hb4⟩
        go_wp2_with fail
        go_ret2
        rw [HS.out]
        exact HR.out _ hb4
      · rw [yes_f hP] at HC
        have HS := Lib.hid (Hbd.out l hpr hP)
        clear hP hpr
        go_wp2_with fail
        refine HC.out.mono ?_
        rintro e w4 ⟨rfl, hb4⟩
        go_wp2_with fail
        go_ret2
        rw [HS.out]
        exact out_none _ _ (Hbel.out.trans (hb4.mono Hbel.out.size))
end Go.Proofs.YtdgedclpaplgoaaDoor.lab
namespace Go.Proofs.YtdgedclpaplgoaaDoor.lab
open Go.ChangeShapes Go.WideShapes Go.ChangeAt Go.RowKit ty
set_option linter.unusedVariables false

set_option maxRecDepth 100000 in
theorem impl_at (l : List Label) (key : ByteArray) (f : Nat) (v : Value) (w : World) (h : Lies w f v (.sl 2 l.length (l.flatMap Label.row))) :
    Calls Tryd.prog 15 #[v, .string key] w fun e w' => e = .returned (twoS (atF l key)) ∧ Below w.heap.size w w' := by
  obtain ⟨A, c, rfl, hc1, hc2, f', rfl, hk⟩ := els_of Label.row_length h
  unfold maxLen at hc2
  obtain ⟨R, hR⟩ : ∃ R, atF l key = R := ⟨_, rfl⟩
  rw [hR]
  have Hno : Hid ((∀ j (hj : j < l.length), l[j].key ≠ key) → R = none) := fun h => by rw [← hR]; exact at_none' h
  have Hyes : Hid (∀ k (hk : k < l.length), (∀ j (hj : j < k), (l[j]'(by omega)).key ≠ key) → l[k].key = key → R = some l[k].value) := fun k hk h1 h2 => by rw [← hR]; exact atF_some hk h1 h2
  have Hk := Lib.hid hk
  clear h hk hR
  go_enter Tryd.func15, Tryd.ntmps15
  go_wp2_with fail
  go_loopw [10] (fun i wr => ∃ j : Nat, j ≤ l.length ∧ i = .int .i64 j ∧ Hid (∀ q (hq : q < j) (hl : q < l.length), l[q].key ≠ key) ∧ Below w.heap.size w wr) (fun i _ => l.length - (intOf i).toNat)
  case atStart => exact ⟨0, Nat.zero_le _, rfl, fun q hq => by omega, Below.refl _ _⟩
  case round =>
    obtain ⟨j, hj, rfl, hall, hbel⟩ := hrel
    have Hbel := Lib.hid hbel
    by_cases hlt : j < l.length
    · obtain ⟨g, o, hA, hg, us, hus, hcc, hls⟩ := (Hk.out.below hbel).get hlt
      obtain ⟨rfl, hwf⟩ := Label.opened hls
      have q0 : wr.cell? ⟨g, o + j * 2, none⟩ = some (.string l[j].key) := hcc 0 _ rfl
      have q1 : wr.cell? ⟨g, o + j * 2 + 1, none⟩ = some (.string l[j].value) := hcc 1 _ rfl
      have Hb2 : Hid (∀ o, Below w.heap.size w (wr.alloc o)) := fun o => hbel.alloc hbel.size o
      by_cases he : l[j].key = key
      · have Hf := Lib.hid (Hyes.out j hlt (fun q hq => hall.out q hq (by omega)) he)
        have hs := same_yes he
        subst hA
        clear he Hno Hyes hall hcc hls hus hwf hbel hg
        generalize l[j].key = x at q0 hs
        generalize l[j].value = y at q1 Hf
        go_wp2_with fail
        go_ret2
        exact ⟨by rw [Hf.out]; rfl, Hb2.out _⟩
      · have Hs := Lib.hid he
        have hs := same_no he
        subst hA
        clear he Hno Hyes hcc hls hus hwf hbel hg
        generalize l[j].key = x at q0 hs
        generalize l[j].value = y at q1
        go_wp2_with fail
        go_roundw
        case rel => exact ⟨j + 1, by omega, by go_num, fun q hq hl => by
          by_cases e : q = j
          · subst e; exact Hs.out
          · exact hall.out q (by omega) hl, Hb2.out _⟩
        case measure => simp [intOf]; omega
    · obtain rfl : j = l.length := by omega
      have Hf := Lib.hid (Hno.out fun q hq => hall.out q hq hq)
      clear hall hbel
      go_wp2_with fail
      go_ret2
      exact ⟨by rw [Hf.out]; rfl, Hbel.out⟩
end Go.Proofs.YtdgedclpaplgoaaDoor.lab
namespace Go.Proofs.YtdgedclpaplgoaaDoor.lab
open Go.ChangeShapes Go.WideShapes Go.ChangeAt Go.RowKit ty
set_option linter.unusedVariables false

set_option maxRecDepth 100000 in
set_option maxHeartbeats 8000000 in
theorem impl_eq (a b : List Label) (f1 f2 : Nat) (v1 v2 : Value) (w : World) (h1 : Lies w f1 v1 (.sl 2 a.length (a.flatMap Label.row))) (h2 : Lies w f2 v2 (.sl 2 b.length (b.flatMap Label.row))) :
    Calls Tryd.prog 49 #[v1, v2] w fun e w' => e = .returned (.bool (yes (SameP a b))) ∧ ∃ n, w' = w.drewN n := by
  obtain ⟨A1, c1, rfl, hc1, hm1, f', rfl, hk1⟩ := els_of Label.row_length h1
  obtain ⟨A2, c2, rfl, hc2, hm2, f'', rfl, hk2⟩ := els_of Label.row_length h2
  unfold maxLen at hm1 hm2
  obtain ⟨R, hR⟩ : ∃ R, yes (SameP a b) = R := ⟨_, rfl⟩
  rw [hR]
  have Hno : Hid (¬ SameP a b → R = false) := fun h => by rw [← hR]; exact yes_f h
  have Hyes : Hid (SameP a b → R = true) := fun h => by rw [← hR]; exact yes_t h
  have Hk1 := Lib.hid hk1
  have Hk2 := Lib.hid hk2
  clear h1 h2 hk1 hk2 hR
  by_cases hl : a.length = b.length
  case neg =>
    have Hf := Lib.hid (Hno.out fun h => hl h.1)
    have hn : ((a.length : Int) != (b.length : Int)) = true := bne_iff_ne.2 (by omega)
    clear hl Hno Hyes
    go_enter Tryd.func49, Tryd.ntmps49
    go_wp2_with fail
    go_ret
    exact ⟨by rw [Hf.out]; rfl, 0, rfl⟩
  obtain ⟨n, hn⟩ : ∃ n, n = a.length := ⟨_, rfl⟩
  have hb : b.length = n := by omega
  rw [← hn] at hc1
  rw [hb] at hc2
  rw [← hn, hb]
  have Hn := Lib.hid hn
  have Hb := Lib.hid hb
  clear hn hb hl
  go_enter Tryd.func49, Tryd.ntmps49
  go_wp2_with fail
  go_loopw [13] (fun i wr => ∃ j : Nat, j ≤ n ∧ i = .int .i64 j ∧ Hid (SameTo a b j) ∧ ∃ n, wr = w.drewN n) (fun i _ => n - (intOf i).toNat)
  case atStart => exact ⟨0, Nat.zero_le _, rfl, fun i _ _ h => by omega, 0, rfl⟩
  case round =>
    obtain ⟨j, hj, rfl, hall, n0, hwr⟩ := hrel
    have Hw : Hid (∃ n, wr = w.drewN n) := ⟨n0, hwr⟩
    by_cases hlt : j < n
    · have hla : j < a.length := by rw [← Hn.out]; exact hlt
      have hlb : j < b.length := by rw [Hb.out]; exact hlt
      obtain ⟨g1, o1, hA1, hg1, us1, hus1, hcc1, hls1⟩ := Hk1.out.get hla
      obtain ⟨g2, o2, hA2, hg2, us2, hus2, hcc2, hls2⟩ := Hk2.out.get hlb
      obtain ⟨rfl, hwf1⟩ := Label.opened hls1
      obtain ⟨rfl, hwf2⟩ := Label.opened hls2
      have q0 : wr.cell? ⟨g1, o1 + j * 2, none⟩ = some (.string a[j].key) := by rw [hwr]; exact hcc1 0 _ rfl
      have q1 : wr.cell? ⟨g1, o1 + j * 2 + 1, none⟩ = some (.string a[j].value) := by rw [hwr]; exact hcc1 1 _ rfl
      have r0 : wr.cell? ⟨g2, o2 + j * 2, none⟩ = some (.string b[j].key) := by rw [hwr]; exact hcc2 0 _ rfl
      have r1 : wr.cell? ⟨g2, o2 + j * 2 + 1, none⟩ = some (.string b[j].value) := by rw [hwr]; exact hcc2 1 _ rfl
      subst hA1 hA2
      by_cases he : a[j].key = b[j].key
      · have hs := same_yes he
        by_cases he2 : a[j].value = b[j].value
        · have hs2 := same_yes he2
          have Hnx : Hid (SameTo a b (j + 1)) := fun i i1 i2 h => by
            by_cases e : i = j
            · subst e; exact ⟨he, he2⟩
            · exact hall.out i i1 i2 (by omega)
          clear he he2 Hno Hyes hall hls1 hls2 hus1 hus2 hcc1 hcc2 hwf1 hwf2 hwr hg1 hg2
          generalize a[j].key = x1 at q0 hs
          generalize a[j].value = x2 at q1 hs2
          generalize b[j].key = y1 at r0 hs
          generalize b[j].value = y2 at r1 hs2
          go_wp2_with fail
          go_quiet (fail)
          go_wp2_with fail
          go_roundw
          case rel => exact ⟨j + 1, by omega, by go_num, Hnx.out, drew_of Hw.out _⟩
          case measure => simp [intOf]; omega
        · have Hf := Lib.hid (Hno.out fun h => he2 (h.2 j hla hlb hla).2)
          have hs2 := same_no he2
          clear he he2 Hno Hyes hall hls1 hls2 hus1 hus2 hcc1 hcc2 hwf1 hwf2 hwr hg1 hg2
          generalize a[j].key = x1 at q0 hs
          generalize a[j].value = x2 at q1 hs2
          generalize b[j].key = y1 at r0 hs
          generalize b[j].value = y2 at r1 hs2
          go_wp2_with fail
          go_quiet (fail)
          go_wp2_with fail
          go_ret
          exact ⟨by rw [Hf.out]; rfl, drew_of Hw.out _⟩
      · have Hf := Lib.hid (Hno.out fun h => he (h.2 j hla hlb hla).1)
        have hs := same_no he
        clear he Hno Hyes hall hls1 hls2 hus1 hus2 hcc1 hcc2 hwf1 hwf2 hwr hg1 hg2
        generalize a[j].key = x1 at q0 hs
        generalize a[j].value = x2 at q1
        generalize b[j].key = y1 at r0 hs
        generalize b[j].value = y2 at r1
        go_wp2_with fail
        go_quiet (fail)
        go_wp2_with fail
        go_ret
        exact ⟨by rw [Hf.out]; rfl, drew_of Hw.out _⟩
    · obtain rfl : j = n := by omega
      have Hf : Hid (R = true) := Hyes.out ⟨by rw [Hb.out, Hn.out], by rw [← Hn.out]; exact hall.out⟩
      clear hall hwr
      go_wp2_with fail
      go_ret
      exact ⟨by rw [Hf.out]; rfl, Hw.out⟩
set_option maxRecDepth 100000 in
theorem impl_same (a b : List Label) (f1 f2 : Nat) (v1 v2 : Value) (w : World) (h1 : Lies w f1 v1 (.sl 2 a.length (a.flatMap Label.row))) (h2 : Lies w f2 v2 (.sl 2 b.length (b.flatMap Label.row))) :
    Calls Tryd.prog 17 #[v1, v2] w fun e w' => e = .returned (.bool (yes (SameP a b))) ∧ Below w.heap.size w w' := by
  have H := Lib.hid (impl_eq a b f1 f2 v1 v2 w h1 h2)
  clear h1 h2
  go_enter Tryd.func17, Tryd.ntmps17
  go_wp2_with fail
  refine H.out.mono ?_
  rintro e w1 ⟨rfl, n, rfl⟩
  go_wp2_with fail
  go_ret
  exact ⟨rfl, below_drewN (Below.refl _ _) n⟩
end Go.Proofs.YtdgedclpaplgoaaDoor.lab
namespace Go.Proofs.YtdgedclpaplgoaaDoor.lab
open Go.ChangeShapes Go.WideShapes Go.ChangeAt Go.RowKit ty
set_option linter.unusedVariables false

set_option maxRecDepth 100000 in
set_option maxHeartbeats 8000000 in
theorem law_same (a b : List Label) (f1 f2 : Nat) (v1 v2 : Value) (w : World) (h1 : Lies w f1 v1 (.sl 2 a.length (a.flatMap Label.row))) (h2 : Lies w f2 v2 (.sl 2 b.length (b.flatMap Label.row))) :
    Calls Tryd.prog 11 #[v1, v2] w fun e w' => e = .returned (.bool (yes (SameP a b))) ∧ ∃ n, w' = w.drewN n := by
  obtain ⟨A1, c1, rfl, hc1, hm1, f', rfl, hk1⟩ := els_of Label.row_length h1
  obtain ⟨A2, c2, rfl, hc2, hm2, f'', rfl, hk2⟩ := els_of Label.row_length h2
  unfold maxLen at hm1 hm2
  obtain ⟨R, hR⟩ : ∃ R, yes (SameP a b) = R := ⟨_, rfl⟩
  rw [hR]
  have Hno : Hid (¬ SameP a b → R = false) := fun h => by rw [← hR]; exact yes_f h
  have Hyes : Hid (SameP a b → R = true) := fun h => by rw [← hR]; exact yes_t h
  have Hk1 := Lib.hid hk1
  have Hk2 := Lib.hid hk2
  clear h1 h2 hk1 hk2 hR
  by_cases hl : a.length = b.length
  case neg =>
    have Hf := Lib.hid (Hno.out fun h => hl h.1)
    have hn : ((a.length : Int) != (b.length : Int)) = true := bne_iff_ne.2 (by omega)
    clear hl Hno Hyes
    go_enter Tryd.func11, Tryd.ntmps11
    go_wp2_with fail
    go_ret
    exact ⟨by rw [Hf.out]; rfl, 0, rfl⟩
  obtain ⟨n, hn⟩ : ∃ n, n = a.length := ⟨_, rfl⟩
  have hb : b.length = n := by omega
  rw [← hn] at hc1
  rw [hb] at hc2
  rw [← hn, hb]
  have Hn := Lib.hid hn
  have Hb := Lib.hid hb
  clear hn hb hl
  go_enter Tryd.func11, Tryd.ntmps11
  go_wp2_with fail
  go_loopw [5] (fun i wr => ∃ j : Nat, j ≤ n ∧ i = .int .i64 j ∧ Hid (SameTo a b j) ∧ ∃ n, wr = w.drewN n) (fun i _ => n - (intOf i).toNat)
  case atStart => exact ⟨0, Nat.zero_le _, rfl, fun i _ _ h => by omega, 0, rfl⟩
  case round =>
    obtain ⟨j, hj, rfl, hall, n0, hwr⟩ := hrel
    have Hw : Hid (∃ n, wr = w.drewN n) := ⟨n0, hwr⟩
    by_cases hlt : j < n
    · have hla : j < a.length := by rw [← Hn.out]; exact hlt
      have hlb : j < b.length := by rw [Hb.out]; exact hlt
      obtain ⟨g1, o1, hA1, hg1, us1, hus1, hcc1, hls1⟩ := Hk1.out.get hla
      obtain ⟨g2, o2, hA2, hg2, us2, hus2, hcc2, hls2⟩ := Hk2.out.get hlb
      obtain ⟨rfl, hwf1⟩ := Label.opened hls1
      obtain ⟨rfl, hwf2⟩ := Label.opened hls2
      have q0 : wr.cell? ⟨g1, o1 + j * 2, none⟩ = some (.string a[j].key) := by rw [hwr]; exact hcc1 0 _ rfl
      have q1 : wr.cell? ⟨g1, o1 + j * 2 + 1, none⟩ = some (.string a[j].value) := by rw [hwr]; exact hcc1 1 _ rfl
      have r0 : wr.cell? ⟨g2, o2 + j * 2, none⟩ = some (.string b[j].key) := by rw [hwr]; exact hcc2 0 _ rfl
      have r1 : wr.cell? ⟨g2, o2 + j * 2 + 1, none⟩ = some (.string b[j].value) := by rw [hwr]; exact hcc2 1 _ rfl
      subst hA1 hA2
      by_cases he : a[j].key = b[j].key
      · have hs := same_yes he
        by_cases he2 : a[j].value = b[j].value
        · have hs2 := same_yes he2
          have Hnx : Hid (SameTo a b (j + 1)) := fun i i1 i2 h => by
            by_cases e : i = j
            · subst e; exact ⟨he, he2⟩
            · exact hall.out i i1 i2 (by omega)
          clear he he2 Hno Hyes hall hls1 hls2 hus1 hus2 hcc1 hcc2 hwf1 hwf2 hwr hg1 hg2
          generalize a[j].key = x1 at q0 hs
          generalize a[j].value = x2 at q1 hs2
          generalize b[j].key = y1 at r0 hs
          generalize b[j].value = y2 at r1 hs2
          go_wp2_with fail
          go_quiet (fail)
          go_wp2_with fail
          go_roundw
          case rel => exact ⟨j + 1, by omega, by go_num, Hnx.out, drew_of Hw.out _⟩
          case measure => simp [intOf]; omega
        · have Hf := Lib.hid (Hno.out fun h => he2 (h.2 j hla hlb hla).2)
          have hs2 := same_no he2
          clear he he2 Hno Hyes hall hls1 hls2 hus1 hus2 hcc1 hcc2 hwf1 hwf2 hwr hg1 hg2
          generalize a[j].key = x1 at q0 hs
          generalize a[j].value = x2 at q1 hs2
          generalize b[j].key = y1 at r0 hs
          generalize b[j].value = y2 at r1 hs2
          go_wp2_with fail
          go_quiet (fail)
          go_wp2_with fail
          go_ret
          exact ⟨by rw [Hf.out]; rfl, drew_of Hw.out _⟩
      · have Hf := Lib.hid (Hno.out fun h => he (h.2 j hla hlb hla).1)
        have hs := same_no he
        clear he Hno Hyes hall hls1 hls2 hus1 hus2 hcc1 hcc2 hwf1 hwf2 hwr hg1 hg2
        generalize a[j].key = x1 at q0 hs
        generalize a[j].value = x2 at q1
        generalize b[j].key = y1 at r0 hs
        generalize b[j].value = y2 at r1
        go_wp2_with fail
        go_quiet (fail)
        go_wp2_with fail
        go_ret
        exact ⟨by rw [Hf.out]; rfl, drew_of Hw.out _⟩
    · obtain rfl : j = n := by omega
      have Hf : Hid (R = true) := Hyes.out ⟨by rw [Hb.out, Hn.out], by rw [← Hn.out]; exact hall.out⟩
      clear hall hwr
      go_wp2_with fail
      go_ret
      exact ⟨by rw [Hf.out]; rfl, Hw.out⟩
end Go.Proofs.YtdgedclpaplgoaaDoor.lab
