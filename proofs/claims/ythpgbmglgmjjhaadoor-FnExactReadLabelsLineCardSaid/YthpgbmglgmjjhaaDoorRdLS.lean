/- spec.ReadLabelsLine. -/
import Derived.Test.YthpgbmglgmjjhaaDoorLabS
import Derived.Test.YthpgbmglgmjjhaaDoorLawL
import Derived.Test.YthpgbmglgmjjhaaDoorFlatLab
import Derived.Test.YthpgbmglgmjjhaaDoorLabI
import Derived.Test.YthpgbmglgmjjhaaDoorRdNew
import Derived.Test.YthpgbmglgmjjhaaDoorGRdP
import Derived.Test.YthpgbmglgmjjhaaDoorCutS
import Derived.Deep.RegionLaw
namespace Go.Proofs.YthpgbmglgmjjhaaDoor.lab
open Go.ChangeShapes Go.WideShapes Go.ChangeAt Go.RowKit ty cut
set_option linter.unusedVariables false

theorem own_posr {w : World} {B : Nat} {e : TypeId} {size n : Nat} {v : Value} {xs : List Value} (h : w.ownsRow B e size v n xs) (hn : 0 < n) : ∃ g c, v = .slice (some ⟨g, 0, none⟩) n c := by
  rcases h.2 with ⟨_, h⟩ | ⟨g, cap, cur, rfl, _⟩
  · omega
  · exact ⟨g, cap, rfl⟩
theorem step_label {ops : Array Oper} {o : Oper} {a : Act} {Y w0 : World} {B : Nat} {K : Act → World → Prop} {Q : Exit → Act → World → Prop} {E : Prop} (s t : Tmp)
    (hg : o.guard = none) (hop : o.op = Op.call { callee := Callee.builtin Builtin.append, args := #[.tmp s, .tmp t], argTypes := #[24, 24] })
    (v : Value) (k : Nat) (news : List Label) (x : Label) (hs : a.eval (.tmp s) = v) (hown : w0.ownsRow B 35 2 v k (lvals news)) (hY : Below w0.heap.size w0 Y) (hB : B ≤ w0.heap.size)
    (A : Option Addr) (hx : a.eval (.tmp t) = .slice A 1 1) (hr : RdK Y A 1 2 x.cells) (hk : k ≤ 4096)
    (hK : ∀ v' w', w'.ownsRow B 35 2 v' (k + 1) (lvals (news ++ [x])) → Y.grownBy w' v.ownBlock → (v'.ownBlock = v.ownBlock ∨ v'.ownBlock = some Y.heap.size) → K (a.put o.dst v') w') :
    if Region.wanted o (yielded ops a.tmps) = true then Oper.wp Tryd.prog o a Y K Q else E := by
  obtain ⟨i0, hi, hz0, hz1, hz2⟩ := info_parts TrydinfoLab
  refine step_append_rdk hg (.tmp s) (.tmp t) 24 hop B 35 i0 _ 2 32 Tryd.underlying24 hi hz0 hz1 hz2 rfl (by decide) v k _ hs (own_below' hown hY) A 1 1 x.cells hx hr (by intro u hu; simp [Label.cells] at hu; rcases hu with rfl | rfl <;> rfl) (by unfold maxLen; omega) (by omega) (Nat.le_trans hB hY.size) ?_
  intro v' w' h1 h2 h3
  rw [← lvals_one, ← lvals_append] at h1
  exact hK v' w' h1 h2 h3

set_option maxRecDepth 1000000 in
set_option maxHeartbeats 8000000 in
theorem spec_read (s : ByteArray) (w : World) (hs : s.size ≤ 1048576) :
    Calls Tryd.prog 26 #[.string s] w fun e w' => ListOut w w' e 2 Label.row (readF s) := by
  obtain ⟨w1, hw1⟩ : ∃ w1, w1 = w.alloc (.cells #[] 35) := ⟨_, rfl⟩
  have hb1 : Below w.heap.size w w1 := by rw [hw1]; exact (Below.refl _ _).alloc (Nat.le_refl _) _
  have hown1 : w1.ownsRow w.heap.size 35 2 (.slice (some ⟨w.heap.size, 0, none⟩) 0 0) 0 (lvals []) := by rw [hw1]; exact World.ownsRow_lit w #[] 0 (Nat.le_refl _) (by simp [maxLen]) rfl
  have HE := Lib.hid (fun (r : Bool) => show ListOut w w1 (.returned (.tuple #[.slice (some ⟨w.heap.size, 0, none⟩) 0 0, .bool r])) 2 Label.row ([], r) from by
    obtain ⟨F, ho, hnd, _⟩ := own_lvals (l := []) hown1 (by intro x hx; cases hx)
    exact ⟨_, 1, F, rfl, ho, hnd, hb1⟩)
  have HN := Lib.hid (fun (W : World) (hb : Below w.heap.size w W) => show ListOut w (W.alloc (.cells #[] 35)) (.returned (.tuple #[.slice (some ⟨W.heap.size, 0, none⟩) 0 0, .bool false])) 2 Label.row ([], false) from by
    obtain ⟨F, ho, hnd, _⟩ := own_lvals (l := []) (World.ownsRow_lit (size := 2) (base := w.heap.size) (e := 35) W #[] 0 hb.size (by simp [maxLen]) rfl) (by intro x hx; cases hx)
    exact ⟨_, 1, F, rfl, ho, hnd, hb.alloc hb.size _⟩)
  have Hw1 := Lib.hid hw1
  have Hown1 := Lib.hid hown1
  have Hb1 := Lib.hid hb1
  clear hw1 hown1 hb1
  by_cases hd : s = ⟨#[45]⟩
  · subst hd
    rw [read_dash]
    go_enter Tryd.func26, Tryd.ntmps26
    go_wp2_with fail
    go_ret2
    rw [← Hw1.out]
    exact HE.out true
  have hsd : (s.toList == [45]) = false := by
    have := same_no hd
    simpa [ByteArray.toList_eq] using this
  by_cases h4 : 400 < s.size
  · rw [read_long hd h4]
    clear hd
    go_enter Tryd.func26, Tryd.ntmps26
    go_wp2_with fail
    go_ret2
    rw [← Hw1.out]
    exact HE.out false
  have Hd := Lib.hid hd
  have HC := Lib.hid (spec_cut s 44 w1 hs)
  have Hcs := Lib.hid (fun p hp => Nat.le_trans (cut_sizes s 44 p hp) (show s.size ≤ 400 by omega))
  have hcp := cut_pos s 44
  have hcl := cut_le s 44
  have Hn := Lib.hid (fun h => read_none hd h4 h)
  have Hbd := Lib.hid (fun l h h2 => read_bad (l := l) hd h4 h h2)
  have Hgd := Lib.hid (fun l h h2 => read_good (l := l) hd h4 h h2)
  generalize cutF s 44 = ps at HC Hcs hcp hcl Hn Hbd Hgd
  generalize readF s = R at Hn Hbd Hgd ⊢
  clear hd
  go_enter Tryd.func26, Tryd.ntmps26
  go_wp2_with fail
  rw [← Hw1.out]
  refine HC.out.mono ?_
  rintro e w2 ⟨vp, rfl, hownp, hb2⟩
  obtain ⟨gp, cp, rfl⟩ := own_posr hownp hcp
  have hgp : w1.heap.size ≤ gp := (hownp.lt gp rfl).1
  have hgp2 : gp < w2.heap.size := (hownp.lt gp rfl).2
  have hg1 : w.heap.size < w1.heap.size := (Hown1.out.lt _ rfl).2
  have hrow : ∀ (i : Nat) (h : i < ps.length), w2.cell? ⟨gp, i, none⟩ = some (.string ps[i]) := fun i h => by
    have := hownp.cells (g := gp) rfl i (.string ps[i]) (scells_get ps i h)
    rwa [Addr.add_lit, Nat.zero_add] at this
  have Hrow := Lib.hid hrow
  have Hown2 := Lib.hid (own_below' Hown1.out hb2)
  have Hb2 := Lib.hid (below_link Hb1.out hb2 Hb1.out.size)
  obtain ⟨hcp1, hcp2⟩ : ps.length ≤ cp ∧ cp ≤ 9223372036854775807 := by
    obtain ⟨c', e, h1, h2, _⟩ := own_some hownp rfl
    injection e with _ _ e
    subst e
    exact ⟨h1, h2⟩
  clear hownp hb2 hrow HC Hw1 HE Hown1 Hb1 hsd
  go_wp2_with fail
  go_loopw [4, 6] (fun vo i wr => ∃ (j : Nat) (l : List Label), j ≤ ps.length ∧ i = .int .i64 j ∧ wr.ownsRow w.heap.size 35 2 vo j (lvals l) ∧ Hid (pairs (ps.take j) = some l) ∧ vo.ownBlock ≠ some gp ∧ gp < wr.heap.size ∧ wr.heap[gp]? = w2.heap[gp]? ∧ Below w.heap.size w wr) (fun _ i _ => ps.length - (intOf i).toNat)
  case atStart => exact ⟨0, [], Nat.zero_le _, rfl, Hown2.out, by simp [Hid, pairs], by simp [Value.ownBlock]; omega, hgp2, rfl, Hb2.out⟩
  case round =>
    clear Hown2 Hb2
    obtain ⟨j, l, hj, rfl, hown, hpairs, hne, hgw, hkeep, hbel⟩ := hrel
    by_cases hlt : j < ps.length
    · have q0 : wr.cell? ⟨gp, j, none⟩ = some (.string ps[j]) := (World.cell?_of_block hkeep).trans (Hrow.out j hlt)
      have hpz := Hcs.out ps[j] (List.getElem_mem hlt)
      have HC := Lib.hid (spec_cut ps[j] 61 wr (by omega))
      have Hown := Lib.hid hown
      have Hbel := Lib.hid hbel
      have Hkeep := Lib.hid hkeep
      have Hne := Lib.hid hne
      have Htk := Lib.hid (show ps.take (j + 1) = ps.take j ++ [ps[j]] from List.take_succ_eq_append_getElem hlt)
      have Hmem := Lib.hid (show ps[j] ∈ ps from List.getElem_mem hlt)
      clear hown hbel hkeep hne
      generalize ps[j] = p at q0 HC Htk Hmem
      have hsz : w.heap.size ≤ wr.heap.size := Hbel.out.size
      by_cases h2 : (cutF p 61).length = 2
      case neg =>
        have HR := Lib.hid (Hn.out (pairs_dead ps p Hmem.out (pair_no h2)))
        have hn2 : (((cutF p 61).length : Int) != 2) = true := bne_iff_ne.2 (by omega)
        go_wp2_with fail
        refine HC.out.mono ?_
        rintro e w3 ⟨vq, rfl, hownq, hb3⟩
        obtain ⟨Aq, cq, rfl⟩ := own_is_slice hownq
        have Hb3 := Lib.hid (below_link Hbel.out hb3 hsz)
        clear hownq hb3 HC
        go_wp2_with fail
        go_ret2
        rw [HR.out]
        exact HN.out _ Hb3.out
      · obtain ⟨a, b, hab⟩ : ∃ a b, cutF p 61 = [a, b] := by
          match hc : cutF p 61, h2 with
          | [a, b], _ => exact ⟨a, b, rfl⟩
        have Hpair := Lib.hid (pairs_snoc _ _ _ _ hpairs.out (pair_yes hab))
        rw [hab] at HC
        clear hab h2 hpairs
        go_wp2_with fail
        refine HC.out.mono ?_
        rintro e w3 ⟨vq, rfl, hownq, hb3⟩
        obtain ⟨gq, cq, rfl⟩ := own_posr hownq (by simp)
        have r0 : w3.cell? ⟨gq, 0, none⟩ = some (.string a) := by
          have := hownq.cells (g := gq) rfl 0 (.string a) rfl
          rwa [Addr.add_lit] at this
        have r1 : w3.cell? ⟨gq, 1, none⟩ = some (.string b) := by
          have := hownq.cells (g := gq) rfl 1 (.string b) rfl
          rwa [Addr.add_lit] at this
        have hown3 := own_below' Hown.out hb3
        have Hown3 := Lib.hid hown3
        have Hb3 := Lib.hid (below_link Hbel.out hb3 hsz)
        have Hkeep3 := Lib.hid ((hb3.block gp hgw).trans Hkeep.out)
        have hgw3 : gp < w3.heap.size := Nat.lt_of_lt_of_le hgw hb3.size
        have hsz3 : w.heap.size ≤ w3.heap.size := Hb3.out.size
        obtain ⟨Av, cv, rfl⟩ := own_is_slice hown3
        clear hownq hb3 HC hown3
        go_wp2_with fail
        go_region_law (refine step_label (w0 := w3) 33 41 rfl rfl _ j l ⟨a, b⟩ rfl Hown3.out ?_ hsz3 (some ⟨_, 0, none⟩) rfl ?_ (by omega) ?_
                       · exact ((Below.refl _ _).drew).alloc (Nat.le_refl _) _
                       · exact rdk_new _ _ _
                       intro v4 w4 hown4 hg4 hat4)
        all_goals
          have hgY : gp < (w3.drew.alloc (.cells #[.string a, .string b] 35)).heap.size := by show gp < (w3.alloc _).heap.size; simp; omega
          have Hkeep4 := Lib.hid (((hg4.block gp hgY (fun e => Hne.out e.symm)).trans (Below.heap_alloc w3.drew _ gp hgw3)).trans Hkeep3.out)
          have Hown4 := Lib.hid hown4
          have Hne4 := Lib.hid (show v4.ownBlock ≠ some gp from fun e => by
            rcases hat4 with h | h
            · exact Hne.out (h.symm.trans e)
            · rw [h] at e
              injection e with e
              exact Nat.lt_irrefl _ (Nat.lt_of_lt_of_eq hgY e))
          have hgw4 : gp < w4.heap.size := Nat.lt_of_lt_of_le hgY hg4.size
          have Hb4 := Lib.hid (Below.grown ((Hb3.out.drew).alloc hsz3 _) hg4 (by show _ ≤ (w3.alloc _).heap.size; simp; omega) (fun b hb => (Hown3.out.lt b hb).1))
          clear hown4 hg4 hat4
          go_wp2_with fail
          go_roundw
          case rel => exact ⟨j + 1, l ++ [⟨a, b⟩], by omega, by go_num, Hown4.out, by rw [Htk.out]; exact Hpair.out, Hne4.out, hgw4, Hkeep4.out, Hb4.out⟩
          case measure => simp [intOf]; omega
    · obtain rfl : j = ps.length := by omega
      have hpr := hpairs.out
      rw [List.take_length] at hpr
      obtain ⟨hz, hlen⟩ := pairs_sizes ps l 400 Hcs.out hpr
      rw [← hlen] at hown
      obtain ⟨Av, cv, rfl⟩ := own_is_slice hown
      obtain ⟨F, ho, hnd, _⟩ := own_lvals hown (fun x hx => by have := hz x hx; exact ⟨by unfold maxLen; omega, by unfold maxLen; omega⟩)
      have HC := Lib.hid (spec_labels l _ _ wr ho.lies (fun x hx => by have := hz x hx; exact ⟨by omega, by omega⟩))
      have HR := Lib.hid (fun n => show ListOut w (wr.drewN n) (.returned (.tuple #[.slice Av l.length cv, .bool true])) 2 Label.row (l, true) from ⟨_, 1, F, rfl, ho.below (below_drewN (Below.refl _ _) n), hnd, below_drewN hbel n⟩)
      have Hbel := Lib.hid hbel
      rw [← hlen]
      clear hown hbel ho hnd hz hpairs hlt hj hkeep hne hlen hcp hcl hcp1
      by_cases hP : LabelsP l
      · rw [yes_t hP] at HC
        have HS := Lib.hid (Hgd.out l hpr hP)
        clear hP hpr
        go_wp2_with fail
        refine HC.out.mono ?_
        rintro e w4 ⟨rfl, n1, rfl⟩
        go_wp2_with fail
        go_ret2
        rw [HS.out]
        exact HR.out _
      · rw [yes_f hP] at HC
        have HS := Lib.hid (Hbd.out l hpr hP)
        clear hP hpr
        go_wp2_with fail
        refine HC.out.mono ?_
        rintro e w4 ⟨rfl, n1, rfl⟩
        go_wp2_with fail
        go_ret2
        rw [HS.out]
        exact HN.out _ (below_drewN Hbel.out _)
end Go.Proofs.YthpgbmglgmjjhaaDoor.lab
