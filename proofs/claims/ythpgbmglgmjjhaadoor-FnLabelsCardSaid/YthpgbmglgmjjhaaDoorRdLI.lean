/- impl.ReadLabelsLine. -/
import Derived.Test.YthpgbmglgmjjhaaDoorGK
import Derived.Test.YthpgbmglgmjjhaaDoorGRdP
import Derived.Test.YthpgbmglgmjjhaaDoorFlatLab
import Derived.Test.YthpgbmglgmjjhaaDoorLabI
import Derived.Test.YthpgbmglgmjjhaaDoorLawL
import Derived.Test.YthpgbmglgmjjhaaDoorMaxL
namespace Go.Proofs.YthpgbmglgmjjhaaDoor.lab
open Go.ChangeShapes Go.WideShapes Go.ChangeAt Go.RowKit ty cut
set_option linter.unusedVariables false

theorem lit_rdk (w : World) (x y : ByteArray) : RdK (w.alloc (.cells #[.string x, .string y] 35)) (some ⟨w.heap.size, 0, none⟩) 1 2 [.string x, .string y] := by
  refine ⟨rfl, fun _ => ⟨w.heap.size, 0, rfl, by simp, fun j u hu => ?_⟩⟩
  have := lit_cells w #[.string x, .string y] 35 j u hu
  rwa [Addr.add_lit] at this
/-- No label and a no. -/
theorem out_none (w w' : World) (hb : Below w.heap.size w w') : ListOut w w' (.returned (.tuple #[.slice none 0 0, .bool false])) 2 Label.row (([] : List Label), false) := by
  obtain ⟨F, ho, hnd, _⟩ := own_lvals (w := w') (B := w.heap.size) (e := 0) (v := .slice none 0 0) (l := []) ⟨rfl, .inl ⟨rfl, rfl⟩⟩ (fun x hx => by cases hx)
  exact ⟨_, 1, F, rfl, ho, hnd, hb⟩
theorem pairC_size {p : ByteArray} {x : Label} (h : pairC p = some x) : x.key.size ≤ p.size ∧ x.value.size ≤ p.size := by
  have h1 := congrArg List.length (pairC_is h).1
  unfold pairB at h1
  rw [List.length_append, List.length_cons] at h1
  simp only [Array.length_toList] at h1
  have e1 : p.data.size = p.size := rfl
  have e2 : x.key.data.size = x.key.size := rfl
  have e3 : x.value.data.size = x.value.size := rfl
  omega
theorem pairsC_wf : ∀ (a : List ByteArray) (l : List Label), (∀ p ∈ a, p.size ≤ maxLen) → pairsC a = some l → ∀ x ∈ l, x.Wf
  | [], l, _, h => by simp [pairsC] at h; subst h; intro x hx; cases hx
  | q :: r, l, hs, h => by
    rw [pairsC] at h
    cases hq : pairC q with
    | none => rw [hq] at h; simp at h
    | some y =>
      cases hr : pairsC r with
      | none => rw [hq, hr] at h; simp at h
      | some m =>
        rw [hq, hr] at h
        simp at h
        subst h
        intro x hx
        rcases List.mem_cons.1 hx with rfl | hx
        · have h1 := pairC_size hq
          have h2 := hs q List.mem_cons_self
          exact ⟨by omega, by omega⟩
        · exact pairsC_wf r m (fun p hp => hs p (List.mem_cons_of_mem _ hp)) hr x hx
set_option maxRecDepth 100000 in
set_option maxHeartbeats 8000000 in
theorem impl_read (s : ByteArray) (w : World) (hs : s.size ≤ 1048576) (hM : line.MaxL w) :
    Calls Tryd.prog 14 #[.string s] w fun e w' => ListOut w w' e 2 Label.row (readF s) := by
  rw [← readI_is]
  obtain ⟨i0, hi, hz0, hz1, hz2⟩ := info_parts TrydinfoLab
  by_cases hd : s = ⟨#[45]⟩
  · subst hd
    have e : readI ⟨#[45]⟩ = ([], true) := by unfold readI; rw [if_pos rfl]
    rw [e]
    have HR : Hid (ListOut w (w.alloc (.cells #[] 35)) (.returned (.tuple #[.slice (some ⟨w.heap.size, 0, none⟩) 0 0, .bool true])) 2 Label.row (([] : List Label), true)) := by
      obtain ⟨F, ho, hnd, _⟩ := own_lvals (l := []) (World.ownsRow_lit (e := 35) (size := 2) w #[] 0 (Nat.le_refl _) (by simp [maxLen]) rfl) (fun x hx => by cases hx)
      exact ⟨_, 1, F, rfl, ho, hnd, (Below.refl _ _).alloc (Nat.le_refl _) _⟩
    clear e hs hM hi hz0 hz1 hz2
    go_enter Tryd.func14, Tryd.ntmps14
    go_wp2_with fail
    go_ret2
    exact HR.out
  have hsd : (s.toList == [45]) = false := by
    have := same_no hd
    simpa [ByteArray.toList_eq] using this
  obtain ⟨m, hm⟩ := hM
  have H0 := Lib.hid hm
  obtain ⟨w1, hw1⟩ : ∃ w1, w1 = w.alloc (.cells #[] 35) := ⟨_, rfl⟩
  have Hown1 := Lib.hid (show w1.ownsRow w.heap.size 35 2 (.slice (some ⟨w.heap.size, 0, none⟩) 0 0) 0 (lvals []) by rw [hw1]; exact World.ownsRow_lit w #[] 0 (Nat.le_refl _) (by simp [maxLen]) rfl)
  have Hb1 := Lib.hid (show Below w.heap.size w w1 by rw [hw1]; exact (Below.refl _ _).alloc (Nat.le_refl _) _)
  have hm1 : w1.cell? ⟨0, 0, none⟩ = some (.int .i64 m) := (Hb1.out.cell (World.block_lt_of_cell? _ _ hm)).trans hm
  have Hm := Lib.hid (fun w' (hb : Below w1.heap.size w1 w') => (hb.cell (World.block_lt_of_cell? _ _ hm1)).trans hm1)
  have HSp := Lib.hid (Tryd.strings_Split s ⟨#[44]⟩ m w1 (by omega) hm1 (by decide))
  have hlen : Lib.countB s ⟨#[44]⟩ + 1 = (cutF s 44).length := by rw [← splitB_is, splitB_len]
  rw [splitB_is, hlen] at HSp
  have Hcs := Lib.hid (fun p hp => Nat.le_trans (cut_sizes s 44 p hp) hs)
  have hcl := cut_le s 44
  have hpos := cut_pos s 44
  have Hn := Lib.hid (fun h => readI_none hd h)
  have Hbd := Lib.hid (fun l h h2 => readI_bad (l := l) hd h h2)
  have Hgd := Lib.hid (fun l h h2 => readI_good (l := l) hd h h2)
  have Hw1 := Lib.hid hw1
  generalize cutF s 44 = ps at HSp Hcs hcl hpos Hn Hbd Hgd
  generalize readI s = R at Hn Hbd Hgd ⊢
  clear hd hm hm1 hw1 hlen
  go_enter Tryd.func14, Tryd.ntmps14
  go_wp2_with fail
  rw [← Hw1.out]
  refine HSp.out.mono ?_
  rintro e w2 ⟨rfl, hw2⟩
  have hg1 : w.heap.size < w1.heap.size := (Hown1.out.lt _ rfl).2
  have Hrow : Hid (∀ (i : Nat) (h : i < ps.length), w2.cell? ⟨w1.heap.size, i, none⟩ = some (.string ps[i])) := fun i h => by
    rw [hw2]
    have := lit_cells w1 (ps.map Value.string).toArray 9 i (.string ps[i]) (by simp [h])
    rwa [Addr.add_lit, Nat.zero_add] at this
  have hb2 : Below w1.heap.size w1 w2 := by rw [hw2]; exact (Below.refl _ _).alloc (Nat.le_refl _) _
  have hgp2 : w1.heap.size < w2.heap.size := by rw [hw2]; simp
  have Hown2 := Lib.hid (own_below' Hown1.out hb2)
  have Hb2 := Lib.hid (Hb1.out.trans (hb2.mono Hb1.out.size))
  have Hm2 := Lib.hid (fun w' (hb : Below w2.heap.size w2 w') => Hm.out w' (hb2.trans (hb.mono hb2.size)))
  obtain ⟨gp, hgp⟩ : ∃ gp, gp = w1.heap.size := ⟨_, rfl⟩
  rw [← hgp] at Hrow hgp2 hg1 ⊢
  clear hw2 HSp Hw1 Hown1 Hb1 hsd hb2 Hm hgp
  go_wp2_with fail
  go_loopw [4, 17] (fun vo i wr => ∃ (j : Nat) (l : List Label), j ≤ ps.length ∧ i = .int .i64 j ∧ wr.ownsRow w.heap.size 35 2 vo j (lvals l) ∧ Hid (pairsC (ps.take j) = some l) ∧ vo.ownBlock ≠ some gp ∧ gp < wr.heap.size ∧ wr.heap[gp]? = w2.heap[gp]? ∧ Below w.heap.size w wr ∧ wr.cell? ⟨0, 0, none⟩ = some (.int .i64 m)) (fun _ i _ => ps.length - (intOf i).toNat)
  case atStart => exact ⟨0, [], Nat.zero_le _, rfl, Hown2.out, by simp [Hid, pairsC], by simp [Value.ownBlock]; omega, hgp2, rfl, Hb2.out, Hm2.out w2 (Below.refl _ _)⟩
  case round =>
    clear Hown2 Hb2 Hm2
    obtain ⟨j, l, hj, rfl, hown, hpairs, hne, hgw, hkeep, hbel, hm⟩ := hrel
    by_cases hlt : j < ps.length
    · have q0 : wr.cell? ⟨gp, j, none⟩ = some (.string ps[j]) := (World.cell?_of_block hkeep).trans (Hrow.out j hlt)
      have hpz := Hcs.out ps[j] (List.getElem_mem hlt)
      have HC := Lib.hid (Tryd.strings_Cut ps[j] ⟨#[61]⟩ m wr (by omega) hm)
      have Hown := Lib.hid hown
      have Hbel := Lib.hid hbel
      have Hkeep := Lib.hid hkeep
      have Hne := Lib.hid hne
      have Hm := Lib.hid hm
      have Htk := Lib.hid (show ps.take (j + 1) = ps.take j ++ [ps[j]] from List.take_succ_eq_append_getElem hlt)
      have Hmem := Lib.hid (show ps[j] ∈ ps from List.getElem_mem hlt)
      clear hown hbel hkeep hne hm hpz
      generalize ps[j] = p at q0 HC Htk Hmem
      have hsz : w.heap.size ≤ wr.heap.size := Hbel.out.size
      have HC2 : Hid _ := HC
      clear HC
      rw [show (⟨#[61]⟩ : ByteArray).data.toList = [61] from rfl] at HC2
      cases hf : (Lib.cut p.data.toList [61]).2.2 with
      | false =>
        have HR := Lib.hid (Hn.out (pairsC_dead ps p Hmem.out (pairC_no hf)))
        rw [hf] at HC2
        generalize (⟨(Lib.cut p.data.toList [61]).1.toArray⟩ : ByteArray) = a at HC2
        generalize (⟨(Lib.cut p.data.toList [61]).2.1.toArray⟩ : ByteArray) = b at HC2
        clear hf hpairs
        go_wp2_with fail
        refine HC2.out.mono ?_
        rintro e w3 ⟨rfl, n3, rfl⟩
        go_wp2_with fail
        go_ret2
        rw [HR.out]
        exact out_none _ _ (below_drewN Hbel.out n3)
      | true =>
        have Hpair := Lib.hid (pairsC_snoc _ _ _ _ hpairs.out (pairC_yes hf))
        rw [hf] at HC2
        rw [show mk (Lib.cut p.data.toList [61]).1 = (⟨(Lib.cut p.data.toList [61]).1.toArray⟩ : ByteArray) from rfl, show mk (Lib.cut p.data.toList [61]).2.1 = (⟨(Lib.cut p.data.toList [61]).2.1.toArray⟩ : ByteArray) from rfl] at Hpair
        generalize (⟨(Lib.cut p.data.toList [61]).1.toArray⟩ : ByteArray) = a at HC2 Hpair
        generalize (⟨(Lib.cut p.data.toList [61]).2.1.toArray⟩ : ByteArray) = b at HC2 Hpair
        clear hf hpairs
        go_wp2_with fail
        refine HC2.out.mono ?_
        rintro e w3 ⟨rfl, n3, hw3⟩
        have hb3 : Below wr.heap.size wr w3 := by rw [hw3]; exact below_drewN (Below.refl _ _) n3
        have Hown3 := Lib.hid (own_below' Hown.out hb3)
        have Hb3 := Lib.hid (Hbel.out.trans (hb3.mono hsz))
        have Hkeep3 := Lib.hid ((hb3.block gp hgw).trans Hkeep.out)
        have hgw3 : gp < w3.heap.size := Nat.lt_of_lt_of_le hgw hb3.size
        have hsz3 : w.heap.size ≤ w3.heap.size := Hb3.out.size
        have Hm3 := Lib.hid ((hb3.cell (World.block_lt_of_cell? _ _ Hm.out)).trans Hm.out)
        have hjn : j ≤ 1048577 := by omega
        have Hjn := Lib.hid hjn
        clear hw3 hb3 HC2 hjn
        go_wp2_with (at_builtin; refine wpList_append_rdk rfl (.tmp 29) (.tmp 33) 24 rfl w.heap.size 35 i0 _ 2 32 Tryd.underlying24 hi hz0 hz1 hz2 rfl (by decide) _ j _ rfl (Hown3.out.alloc _) (some ⟨w3.heap.size, 0, none⟩) 1 1 [.string a, .string b] rfl (by exact lit_rdk _ _ _) (by intro u hu; simp at hu; rcases hu with rfl | rfl <;> rfl) (by have := Hjn.out; unfold maxLen; omega) (by have := Hjn.out; omega) (by simp; omega) ?_; intro v4 w4 hown4 hg4 hat4)
        have hgY : gp < (w3.alloc (.cells #[.string a, .string b] 35)).heap.size := by simp; omega
        have Hkeep4 := Lib.hid (((hg4.block gp hgY (fun e => Hne.out e.symm)).trans (Below.heap_alloc w3 _ gp hgw3)).trans Hkeep3.out)
        have Hown4 := Lib.hid hown4
        have Hne4 := Lib.hid (show v4.ownBlock ≠ some gp from fun e => by
          rcases hat4 with h | h
          · exact Hne.out (h.symm.trans e)
          · rw [h] at e
            injection e with e
            exact Nat.lt_irrefl _ (Nat.lt_of_lt_of_eq hgY e))
        have hgw4 : gp < w4.heap.size := Nat.lt_of_lt_of_le hgY hg4.size
        have Hb4 := Lib.hid (Below.grown (Hb3.out.alloc hsz3 _) hg4 (by simp; omega) (fun b hb => (Hown3.out.lt b hb).1))
        have Hm4 := Lib.hid (show w4.cell? ⟨0, 0, none⟩ = some (.int .i64 m) from (Hb4.out.cell (World.block_lt_of_cell? _ _ H0.out)).trans H0.out)
        clear hown4 hg4 hat4
        go_wp2_with fail
        go_roundw
        case rel => exact ⟨j + 1, l ++ [⟨a, b⟩], by omega, by go_num, by rw [lvals_append, lvals_one]; exact Hown4.out, by rw [Htk.out]; exact Hpair.out, Hne4.out, hgw4, Hkeep4.out, Hb4.out, Hm4.out⟩
        case measure => simp [intOf]; omega
    · obtain rfl : j = ps.length := by omega
      have hpr := hpairs.out
      rw [List.take_length] at hpr
      have hlen := (pairsC_join ps l hpr).2
      rw [← hlen] at hown
      obtain ⟨Av, cv, rfl⟩ := own_is_slice hown
      obtain ⟨F, ho, hnd, _⟩ := own_lvals hown (pairsC_wf ps l (fun p hp => by have := Hcs.out p hp; unfold maxLen; omega) hpr)
      have HC := Lib.hid (impl_labels_any l _ _ wr ho.lies)
      have HR := Lib.hid (fun w3 (hb : Below wr.heap.size wr w3) => show ListOut w w3 (.returned (.tuple #[.slice Av l.length cv, .bool true])) 2 Label.row (l, true) from ⟨_, 1, F, rfl, ho.below hb, hnd, hbel.trans (hb.mono hbel.size)⟩)
      have Hbel := Lib.hid hbel
      rw [← hlen]
      clear hown hbel ho hnd hpairs hlt hj hkeep hne hlen hcl hpos hm
      by_cases hP : LabelsP l
      · rw [yes_t hP] at HC
        have HS := Lib.hid (Hgd.out l hpr hP)
        clear hP hpr
        go_wp2_with fail
        refine HC.out.mono ?_
        rintro e w4 ⟨rfl, hb4⟩
        go_wp2_with fail
        go_ret2
        rw [HS.out]
        exact HR.out _ hb4
      · rw [yes_f hP] at HC
        have HS := Lib.hid (Hbd.out l hpr hP)
        clear hP hpr
        go_wp2_with fail
        refine HC.out.mono ?_
        rintro e w4 ⟨rfl, hb4⟩
        go_wp2_with fail
        go_ret2
        rw [HS.out]
        exact out_none _ _ (Hbel.out.trans (hb4.mono Hbel.out.size))
end Go.Proofs.YthpgbmglgmjjhaaDoor.lab
