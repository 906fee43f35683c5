/- Merged: SumsI OpPodS. -/
import Derived.Test.YtcfbkfmkjggcdaaGA17
import Derived.Test.YtcfbkfmkjggcdaaGA19
import Derived.Test.YtcfbkfmkjggcdaaGA2
import Derived.Test.YtcfbkfmkjggcdaaGA3
import Derived.OwnWalk
import Derived.Test.YtcfbkfmkjggcdaaGA6
namespace Go.Proofs.Ytcfbkfmkjggcdaa.pod
open Go.ChangeShapes Go.WideShapes Go.ChangeAt Go.RowKit ty lab arith
set_option linter.unusedVariables false

set_option maxRecDepth 100000 in
set_option maxHeartbeats 16000000 in
theorem impl_sums (l : List Pod) (f : Nat) (v : Value) (w : World) (h : Lies w f v (.sl 7 l.length (l.flatMap Pod.row))) (hn : l.length ≤ 1048576) :
    Calls Try.prog 19 #[v] w fun e w' => e = .returned (sumsV l) ∧ Below w.heap.size w w' := by
  obtain ⟨A, c, rfl, hc1, hc2, f', rfl, hk⟩ := els_of Pod.row_length h
  unfold maxLen at hc2
  have Hwc : Hid (∀ x ∈ cpus l, (Lit.int .i64 x).wf = true) := fun x hx => by
    obtain ⟨y, hy, rfl⟩ := List.mem_map.1 hx
    obtain ⟨j, hj, rfl⟩ := List.getElem_of_mem hy
    obtain ⟨g, o, _, _, us, _, _, hls⟩ := hk.get hj
    obtain ⟨_, _, _, _, _, _, _, hwf, _⟩ := Pod.opened hls
    exact (i64_pod hwf).1
  have Hwm : Hid (∀ x ∈ mems l, (Lit.int .i64 x).wf = true) := fun x hx => by
    obtain ⟨y, hy, rfl⟩ := List.mem_map.1 hx
    obtain ⟨j, hj, rfl⟩ := List.getElem_of_mem hy
    obtain ⟨g, o, _, _, us, _, _, hls⟩ := hk.get hj
    obtain ⟨_, _, _, _, _, _, _, hwf, _⟩ := Pod.opened hls
    exact (i64_pod hwf).2
  obtain ⟨i0, hi, hz0, hz1, hz2⟩ := info_parts iinfo.Tryinfo
  have Hk := Lib.hid hk
  obtain ⟨w2, hw2⟩ : ∃ w2, w2 = (w.alloc (.cells #[] 3)).alloc (.cells #[] 3) := ⟨_, rfl⟩
  have h2 : Two w 3 (.slice (some ⟨w.heap.size, 0, none⟩) 0 0) (.slice (some ⟨w.heap.size + 1, 0, none⟩) 0 0) 0 [] [] w2 := by
    rw [hw2]
    refine ⟨own_below' (World.ownsRow_lit w #[] 0 (Nat.le_refl _) (by simp [maxLen]) rfl) ((Below.refl _ _).alloc (Nat.le_refl _) _), ?_, fun q h1 h2 => ?_, ((Below.refl _ _).alloc (Nat.le_refl _) _).alloc (by simp) _⟩
    · have h1 := World.ownsRow_lit (size := 1) (e := 3) (w.alloc (.cells #[] 3)) #[] 0 (Nat.le_refl _) (by simp [maxLen]) rfl
      rw [show (w.alloc (.cells #[] 3)).heap.size = w.heap.size + 1 by simp] at h1
      exact own_lower' h1 (by omega)
    · simp [Value.ownBlock] at h1 h2
      omega
  have Hw2 := Lib.hid hw2
  have H2 := Lib.hid h2
  clear h hk hw2 h2
  go_enter Try.func19, Try.ntmps19
  go_wp2_with fail
  rw [← Hw2.out]
  go_loopw [5, 6, 17] (fun vc vm i wr => ∃ j : Nat, j ≤ l.length ∧ i = .int .i64 j ∧ Two w 3 vc vm j ((cpus l).take j) ((mems l).take j) wr) (fun _ _ i _ => l.length - (intOf i).toNat)
  case atStart => exact ⟨0, Nat.zero_le _, rfl, H2.out⟩
  case round =>
    clear H2 Hw2
    obtain ⟨wo, rfl⟩ : ∃ wo, wo = wr := ⟨_, rfl⟩
    obtain ⟨j, hj, rfl, hst⟩ := hrel
    obtain ⟨Ac, cc, rfl⟩ := own_is_slice hst.c
    obtain ⟨Am, cm, rfl⟩ := own_is_slice hst.m
    have Hst := Lib.hid hst
    by_cases hlt : j < l.length
    · obtain ⟨g, o, rfl, hg, us, hus, hc, hls⟩ := Hk.out.get hlt
      obtain ⟨A1, c1, A5, c5, A6, c6, rfl, hwf, _⟩ := Pod.opened hls
      have q0 : wo.cell? ⟨g, o + j * 7, none⟩ = some (.string l[j].name) := (World.cell?_of_block (hst.bel.block g hg)).trans (hc 0 _ rfl)
      have q1 : wo.cell? ⟨g, o + j * 7 + 1, none⟩ = some (.slice A1 l[j].labels.length c1) := (World.cell?_of_block (hst.bel.block g hg)).trans (hc 1 _ rfl)
      have q2 : wo.cell? ⟨g, o + j * 7 + 2, none⟩ = some (.int .i64 l[j].cpu) := (World.cell?_of_block (hst.bel.block g hg)).trans (hc 2 _ rfl)
      have q3 : wo.cell? ⟨g, o + j * 7 + 3, none⟩ = some (.int .i64 l[j].mem) := (World.cell?_of_block (hst.bel.block g hg)).trans (hc 3 _ rfl)
      have q4 : wo.cell? ⟨g, o + j * 7 + 4, none⟩ = some (.int .i64 l[j].rank) := (World.cell?_of_block (hst.bel.block g hg)).trans (hc 4 _ rfl)
      have q5 : wo.cell? ⟨g, o + j * 7 + 5, none⟩ = some (.slice A5 l[j].needs.length c5) := (World.cell?_of_block (hst.bel.block g hg)).trans (hc 5 _ rfl)
      have q6 : wo.cell? ⟨g, o + j * 7 + 6, none⟩ = some (.slice A6 l[j].tolerances.length c6) := (World.cell?_of_block (hst.bel.block g hg)).trans (hc 6 _ rfl)
      have hj0 : (0 : Int) ≤ (j : Int) := by omega
      have hjn : (j : Int) < (l.length : Int) := by omega
      have Hnc := Lib.hid (map_snoc Pod.cpu hlt)
      have Hnm := Lib.hid (map_snoc Pod.mem hlt)
      have hBo : w.heap.size ≤ wo.heap.size := hst.bel.size
      clear hst hc hls hus hwf
      generalize l[j].name = xn at q0
      generalize l[j].labels.length = nl at q1
      generalize l[j].cpu = xc at q2 Hnc
      generalize l[j].mem = xm at q3 Hnm
      generalize l[j].rank = xr at q4
      generalize l[j].needs.length = nn at q5
      generalize l[j].tolerances.length = nt at q6
      obtain ⟨w3, hw3⟩ : ∃ x, x = wo.alloc (.cells #[.string xn, .slice A1 nl c1, .int .i64 xc, .int .i64 xm, .int .i64 xr, .slice A5 nn c5, .slice A6 nt c6] 33) := ⟨_, rfl⟩
      have hb3 : Below wo.heap.size wo w3 := by rw [hw3]; exact (Below.refl _ _).alloc (Nat.le_refl _) _
      have r3 : RowE 33 w3 wo.heap.size [.string xn, .slice A1 nl c1, .int .i64 xc, .int .i64 xm, .int .i64 xr, .slice A5 nn c5, .slice A6 nt c6] := by rw [hw3]; exact RowE.new _ _ _
      have p2 : (wo.alloc (.cells #[.string xn, .slice A1 nl c1, .int .i64 xc, .int .i64 xm, .int .i64 xr, .slice A5 nn c5, .slice A6 nt c6] 33)).cell? ⟨wo.heap.size, 2, none⟩ = some (.int .i64 xc) := by rw [← hw3]; exact r3.cell 2 _ rfl
      have Hs3 := Lib.hid (show wo.heap.size < w3.heap.size from heap_lt r3)
      have hlit : RdK (w3.alloc (.cells #[.int .i64 xc] 3)) (some ⟨wo.heap.size + 1, 0, none⟩) 1 1 [.int .i64 xc] := by
        have h := flt.rdk_lit (k := 1) w3 3 [.int .i64 xc] rfl
        rw [show w3.heap.size = wo.heap.size + 1 by rw [hw3]; simp] at h
        exact h
      have Hlit := Lib.hid hlit
      have Hw3 := Lib.hid hw3
      have Hb3 := Lib.hid hb3
      have R3 := Lib.hid r3
      clear hw3 hb3 r3 hlit
      go_wp2_with (first | (at_builtin; rw [← Hw3.out]; refine wpList_append_rdk rfl (.tmp 21) (.tmp 24) 70 rfl w.heap.size 3 i0 (.int .i64 0) 1 8 Try.underlying70 hi hz0 hz1 hz2 rfl (by decide) _ j (icells ((cpus l).take j)) rfl (own_below' Hst.out.c (Hb3.out.alloc Hb3.out.size _)) _ 1 1 [.int .i64 xc] rfl Hlit.out (iinfo.one_cell xc) (by unfold maxLen; omega) (by omega) (by have := Hb3.out.size; simp; omega) ?_) | fail)
      intro v5 w5 hown5 hg5 hat5
      have hs3 := Hb3.out.size
      have hb5 : Below w.heap.size w w5 := ((below_link Hst.out.bel Hb3.out hBo).alloc (by omega) _).grown hg5 (by simp; omega) (fun q hq => (Hst.out.c.lt q hq).1)
      have hm5 := (own_below' Hst.out.m (Hb3.out.alloc Hb3.out.size (.cells #[.int .i64 xc] 3))).kept hg5 (of_ne fun q h1 h2 => Hst.out.apart q h2 h1)
      have ha5 : ∀ q, v5.ownBlock = some q → (Value.slice Am j cm).ownBlock = some q → False := fun q h1 h2 => by
        rcases hat5 with e | e
        · exact Hst.out.apart q (e ▸ h1) h2
        · have h3 := (Hst.out.m.lt q h2).2
          rw [e] at h1
          injection h1 with h1
          try simp at h1
          omega
      have r5 : RowE 33 w5 wo.heap.size [.string xn, .slice A1 nl c1, .int .i64 xc, .int .i64 xm, .int .i64 xr, .slice A5 nn c5, .slice A6 nt c6] := (hg5.block wo.heap.size (by have := Hs3.out; simp; omega) (fun e => by have h3 := (Hst.out.c.lt _ e.symm).2; omega)).trans (Below.heap_alloc _ _ _ Hs3.out |>.trans R3.out)
      have p3 := r5.cell 3 _ rfl
      have hs5 : w.heap.size ≤ w5.heap.size := hb5.size
      have Hown5 := Lib.hid hown5
      have Hm5 := Lib.hid hm5
      have Ha5 := Lib.hid ha5
      have Hb5 := Lib.hid hb5
      clear hown5 hg5 hat5 hb5 hm5 ha5 Hst q0 q1 q2 q3 q4 q5 q6 p2 hs3 r5 R3 Hb3 Hw3 Hs3 Hlit
      go_wp2_with (first | (at_builtin; refine wpList_append_rdk rfl (.tmp 26) (.tmp 29) 70 rfl w.heap.size 3 i0 (.int .i64 0) 1 8 Try.underlying70 hi hz0 hz1 hz2 rfl (by decide) _ j (icells ((mems l).take j)) rfl (own_below' Hm5.out ((Below.refl _ _).alloc (Nat.le_refl _) _)) _ 1 1 [.int .i64 xm] rfl (flt.rdk_lit _ _ _ rfl) (iinfo.one_cell xm) (by unfold maxLen; omega) (by omega) (by simp; omega) ?_) | fail)
      intro v6 w6 hown6 hg6 hat6
      have HR : Hid (Two w 3 v5 v6 (j + 1) ((cpus l).take (j + 1)) ((mems l).take (j + 1)) w6) := by
        refine ⟨?_, ?_, fun q h1 h2 => ?_, (Hb5.out.alloc hs5 _).grown hg6 (by simp; omega) (fun q hq => (Hm5.out.lt q hq).1)⟩
        · have h1 := (own_below' Hown5.out ((Below.refl _ _).alloc (Nat.le_refl _) (.cells #[.int .i64 xm] 3))).kept hg6 (of_ne fun q h1 h2 => Ha5.out q h1 h2)
          unfold cpus
          rw [Hnc.out, icells_append]
          exact h1
        · unfold mems
          rw [Hnm.out, icells_append]
          exact hown6
        · rcases hat6 with e | e
          · exact Ha5.out q h1 (e ▸ h2)
          · have h3 := (Hown5.out.lt q h1).2
            rw [e] at h2
            injection h2 with h2
            try simp at h2
            omega
      clear hown6 hg6 hat6
      go_wp2_with fail
      go_roundw
      case rel => exact ⟨j + 1, by omega, by go_num, HR.out⟩
      case measure => simp [intOf]; omega
    · obtain rfl : j = l.length := by omega
      have e1 : (cpus l).take l.length = cpus l := List.take_of_length_le (by simp [cpus])
      have e2 : (mems l).take l.length = mems l := List.take_of_length_le (by simp [mems])
      rw [e1, e2] at hst
      obtain ⟨_, _, ec, k1, k2, hrc⟩ := Rd.of_own hst.c
      injection ec with ec _ ed
      subst ec ed
      obtain ⟨_, _, ec, k3, k4, hrm⟩ := Rd.of_own hst.m
      injection ec with ec _ ed
      subst ec ed
      have HC := Lib.hid (fun w' (hb : Below wo.heap.size wo w') => impl_sumI Ac l.length cc (cpus l) w' (by unfold maxLen; omega) (by simp [cpus]) (hrc.below hb) Hwc.out)
      have HM := Lib.hid (fun w' (hb : Below wo.heap.size wo w') => impl_sumI Am l.length cm (mems l) w' (by unfold maxLen; omega) (by simp [mems]) (hrm.below hb) Hwm.out)
      have HB := Lib.hid hst.bel
      have He : Hid (sumsV l = sums3 (sumF (cpus l)) (sumF (mems l))) := rfl
      clear hst Hst hrc hrm
      generalize sumF (cpus l) = R1 at HC He
      generalize sumF (mems l) = R2 at HM He
      cases R1 with
      | none =>
        rw [two_none] at HC
        cases R2 with
        | none =>
          rw [two_none] at HM
          go_wp2_with fail
          refine (HC.out _ (Below.refl _ _)).mono ?_
          rintro e w1 ⟨rfl, rfl⟩
          go_wp2_with fail
          refine (HM.out _ (Below.refl _ _)).mono ?_
          rintro e w1 ⟨rfl, rfl⟩
          go_wp2_with fail
          go_ret3
          exact ⟨by rw [He.out]; rfl, HB.out⟩
        | some b =>
          rw [two_some] at HM
          go_wp2_with fail
          refine (HC.out _ (Below.refl _ _)).mono ?_
          rintro e w1 ⟨rfl, rfl⟩
          go_wp2_with fail
          refine (HM.out _ (Below.refl _ _)).mono ?_
          rintro e w1 ⟨rfl, rfl⟩
          go_wp2_with fail
          go_ret3
          exact ⟨by rw [He.out]; rfl, HB.out⟩
      | some a =>
        rw [two_some] at HC
        cases R2 with
        | none =>
          rw [two_none] at HM
          go_wp2_with fail
          refine (HC.out _ (Below.refl _ _)).mono ?_
          rintro e w1 ⟨rfl, rfl⟩
          go_wp2_with fail
          refine (HM.out _ (Below.refl _ _)).mono ?_
          rintro e w1 ⟨rfl, rfl⟩
          go_wp2_with fail
          go_ret3
          exact ⟨by rw [He.out]; rfl, HB.out⟩
        | some b =>
          rw [two_some] at HM
          go_wp2_with fail
          refine (HC.out _ (Below.refl _ _)).mono ?_
          rintro e w1 ⟨rfl, rfl⟩
          go_wp2_with fail
          refine (HM.out _ (Below.refl _ _)).mono ?_
          rintro e w1 ⟨rfl, rfl⟩
          go_wp2_with fail
          go_ret3
          exact ⟨by rw [He.out]; rfl, HB.out⟩
end Go.Proofs.Ytcfbkfmkjggcdaa.pod
namespace Go.Proofs.Ytcfbkfmkjggcdaa.ty
open Go.ChangeShapes Go.WideShapes Go.ChangeAt Go.RowKit
set_option linter.unusedVariables false

section
variable {H : Type} {enc : TypeId × Value → H} {w : World} {base : Nat} {sp : Nat → Bool} {held : Bool}
set_option maxRecDepth 100000 in
theorem open_PodS {r : Reach} {b0 : Nat} {v : Value} {d : DataW H} {ps : List MemPlace}
    (hval : Value.okWide Try.prog w r b0 46 v) (hd : DataW.Trod enc Try.prog w base sp held 46 v d ps) : ∃ (l : List Pod) (f : Nat), Lies w f v (.sl 7 l.length (l.flatMap Pod.row)) := by
  obtain ⟨A, n, c, rfl⟩ := okWide_slice Try.underlying46 hval
  obtain ⟨fuel, hf⟩ := hd
  obtain ⟨v', l, h1, h2⟩ := lies_slice (α := Pod) Pod.row Try.underlying46 csPod (by decide) Pod.row_length (fun n cs' y _ hy => trodPod n cs' y hy) hf
  have e : v' = .slice A n c := by simpa [Value.cells] using h1.symm
  subst e
  exact ⟨l, fuel, h2⟩
end
end Go.Proofs.Ytcfbkfmkjggcdaa.ty
