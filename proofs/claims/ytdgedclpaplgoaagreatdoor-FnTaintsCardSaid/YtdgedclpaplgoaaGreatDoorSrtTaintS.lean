/- spec.SortTaints. Printed by gen/gen_fl.py. -/
import Derived.Test.YtdgedclpaplgoaaGreatDoorGA21
import Derived.Test.YtdgedclpaplgoaaGreatDoorGA6
import Derived.Test.YtdgedclpaplgoaaGreatDoorGA5
import Derived.Test.YtdgedclpaplgoaaGreatDoorGA0
import Derived.Deep.RegionLaw
import Derived.Deep.CutRange
namespace Go.Proofs.YtdgedclpaplgoaaGreatDoor.taint
open Go.ChangeShapes Go.WideShapes Go.ChangeAt Go.RowKit ty lab dedup need
set_option linter.unusedVariables false

set_option maxRecDepth 1000000 in
set_option maxHeartbeats 32000000 in
theorem spec_sortTaint (l : List Taint) (f : Nat) (v : Value) (w : World) (h : Lies w f v (.sl 3 l.length (l.flatMap Taint.row))) (hz : wsum Taint.wt l ≤ 1048576) (hn : l.length ≤ 1048576) :
    Calls Tryz.prog 19 #[v] w fun e w' => ListOut w w' e 3 Taint.row (sortL TaintsP lessT l) := by
  have HWT := Lib.hid (show wsum Taint.wt (dsort lessT l) ≤ 1048576 from Nat.le_trans (sum_dsort lessT Taint.wt l) hz)
  obtain ⟨A, c, rfl, hc1, hc2, f', rfl, hk⟩ := els_of Taint.row_length h
  unfold maxLen at hc2
  obtain ⟨hrd, hwf⟩ := rdk_Taint hk
  obtain ⟨i0, hi, hz0, hz1, hz2⟩ := info_parts TryzinfITaint
  obtain ⟨w1, hw1⟩ : ∃ w1, w1 = w.alloc (.cells #[] 44) := ⟨_, rfl⟩
  have hb1 : Below w.heap.size w w1 := by rw [hw1]; exact (Below.refl _ _).alloc (Nat.le_refl _) _
  have hown1 : w1.ownsRow w.heap.size 44 3 (.slice (some ⟨w.heap.size, 0, none⟩) 0 0) 0 [] := by rw [hw1]; exact World.ownsRow_lit w #[] 0 (Nat.le_refl _) (by simp [maxLen]) rfl
  have Hw1 := Lib.hid hw1
  have Hown1 := Lib.hid hown1
  have Hrd1 := Lib.hid (hrd.below hb1)
  have Hb1 := Lib.hid hb1
  have Hk := Lib.hid hk
  have Hwf := Lib.hid hwf
  clear h hk hw1 hown1 hb1 hrd hwf hz
  by_cases h40 : 40 < l.length
  · have Hno := Lib.hid (sortL_no (P := TaintsP) (lt := lessT) (l := l) (fun h => by have := h.1; omega))
    go_enter Tryz.func19, Tryz.ntmps19
    go_wp2_with (first | (rw [← Hw1.out]; refine wpList_append_rdk rfl (.tmp 9) (.tmp 10) 35 rfl w.heap.size 44 i0 _ 3 40 Tryz.underlying35 hi hz0 hz1 hz2 rfl (by decide) _ 0 [] rfl Hown1.out A l.length c (l.flatMap Taint.cells) rfl Hrd1.out (flt.ones_flat Taint.cells_one l) (by unfold maxLen; omega) (by omega) Hb1.out.size ?_) | fail)
    intro v2 w2 hown2 hg2 hat2
    have Hb2 := Lib.hid (Hb1.out.grown hg2 Hb1.out.size (fun b hb => by simp [Value.ownBlock] at hb; omega))
    try simp only [Nat.zero_add, List.nil_append] at hown2
    obtain ⟨F, ho, hnd, hrg⟩ := own_Taint hown2 Hwf.out
    obtain ⟨A2, c2, rfl⟩ := own_is_slice hown2
    have HR := Lib.hid (show ListOut w w2 (.returned (.tuple #[.slice A2 l.length c2, .bool false])) 3 Taint.row (l, false) from ⟨_, 1, F, rfl, ho, hnd, Hb2.out⟩)
    clear hown2 hg2 hat2 ho hnd hrg
    go_wp2_with fail
    go_ret2
    rw [Hno.out]
    exact HR.out
  have Hyes := Lib.hid (fun (h : TaintsP (dsort lessT l)) => sortL_yes (P := TaintsP) (lt := lessT) (l := l) ⟨by omega, h⟩)
  have Hno := Lib.hid (fun (h : ¬ TaintsP (dsort lessT l)) => sortL_no (P := TaintsP) (lt := lessT) (l := l) (fun h2 => h h2.2))
  go_enter Tryz.func19, Tryz.ntmps19
  go_wp2_with (first | (rw [← Hw1.out]; refine wpList_append_rdk rfl (.tmp 9) (.tmp 10) 35 rfl w.heap.size 44 i0 _ 3 40 Tryz.underlying35 hi hz0 hz1 hz2 rfl (by decide) _ 0 [] rfl Hown1.out A l.length c (l.flatMap Taint.cells) rfl Hrd1.out (flt.ones_flat Taint.cells_one l) (by unfold maxLen; omega) (by omega) Hb1.out.size ?_) | fail)
  intro v2 w2 hown2 hg2 hat2
  try simp only [Nat.zero_add, List.nil_append] at hown2
  have hb2 := Hb1.out.grown hg2 Hb1.out.size (fun b hb => by simp [Value.ownBlock] at hb; omega)
  obtain ⟨A2, c2, rfl⟩ := own_is_slice hown2
  obtain ⟨w3, hw3⟩ : ∃ w3, w3 = w2.alloc (.cells #[] 44) := ⟨_, rfl⟩
  have hb3 : Below w2.heap.size w2 w3 := by rw [hw3]; exact (Below.refl _ _).alloc (Nat.le_refl _) _
  have hown3 : w3.ownsRow w2.heap.size 44 3 (.slice (some ⟨w2.heap.size, 0, none⟩) 0 0) 0 [] := by rw [hw3]; exact World.ownsRow_lit w2 #[] 0 (Nat.le_refl _) (by simp [maxLen]) rfl
  have Hown2 := Lib.hid hown2
  have Hown3 := Lib.hid hown3
  have Hb2 := Lib.hid hb2
  have Hb3 := Lib.hid hb3
  have Hw3 := Lib.hid hw3
  have hge : w.heap.size ≤ w2.heap.size := hb2.size
  clear hown2 hown3 hg2 hat2 hb2 hb3 hw3 Hw1 Hown1 Hrd1 Hb1
  go_wp2_with fail
  rw [← Hw3.out]
  go_loopw [5, 6] (fun vo i wr => ∃ (j g cg : Nat) (S : List Taint), j ≤ l.length ∧ i = .int .i64 j ∧ Hid (S = dsort lessT (l.take j)) ∧ vo = .slice (some ⟨g, 0, none⟩) S.length cg ∧ wr.ownsRow w2.heap.size 44 3 (.slice (some ⟨g, 0, none⟩) S.length cg) S.length (S.flatMap Taint.cells) ∧ Below w2.heap.size w2 wr) (fun _ i _ => l.length - (intOf i).toNat)
  case atStart => exact ⟨0, w2.heap.size, 0, [], Nat.zero_le _, rfl, rfl, rfl, Hown3.out, Hb3.out⟩
  case round =>
    clear Hown3 Hw3 Hb3
    obtain ⟨wo, rfl⟩ : ∃ wo, wo = wr := ⟨_, rfl⟩
    obtain ⟨j, g, cg, S, hj, rfl, hS, rfl, hown, hbel⟩ := hrel
    have hSl : S.length ≤ 40 := by
      have h1 := dsort_length lessT (l.take j)
      rw [← hS.out, List.length_take] at h1
      omega
    by_cases hlt : j < l.length
    · have hbw : Below w.heap.size w wo := below_link Hb2.out hbel Hb2.out.size
      obtain ⟨g1, o1, rfl, hg1, us, hus, hcc, hls⟩ := (Hk.out.below hbw).get hlt
      obtain ⟨rfl, hwfx⟩ := Taint.opened hls
      have HSn : Hid (dsort lessT (l.take (j + 1)) = insD lessT l[j] S) := by unfold Hid; rw [List.take_succ_eq_append_getElem hlt, dsort_snoc, hS.out]
      obtain ⟨hcg1, hcg2⟩ : S.length ≤ cg ∧ cg ≤ 9223372036854775807 := by
        obtain ⟨c', e, h1, h2, _⟩ := own_some hown rfl
        injection e with _ _ e
        subst e
        exact ⟨h1, h2⟩
      have hglt : g < wo.heap.size := (hown.lt g rfl).2
      have hgge : w2.heap.size ≤ g := (hown.lt g rfl).1
      have X0 := Lib.hid (fun w' (hb : Below wo.heap.size wo w') => show w'.cell? ⟨g1, o1 + j * 3, none⟩ = some (.string l[j].key) from (World.cell?_of_block (hb.block g1 hg1)).trans (hcc 0 _ rfl))
      have X1 := Lib.hid (fun w' (hb : Below wo.heap.size wo w') => show w'.cell? ⟨g1, o1 + j * 3 + 1, none⟩ = some (.string l[j].value) from (World.cell?_of_block (hb.block g1 hg1)).trans (hcc 1 _ rfl))
      have X2 := Lib.hid (fun w' (hb : Below wo.heap.size wo w') => show w'.cell? ⟨g1, o1 + j * 3 + 2, none⟩ = some (.int .i64 l[j].effect) from (World.cell?_of_block (hb.block g1 hg1)).trans (hcc 2 _ rfl))
      have Y0 := Lib.hid (fun w' (hb : Below wo.heap.size wo w') q (h : q < S.length) => show w'.cell? ⟨g, q * 3, none⟩ = some (.string S[q].key) from flt.cell_of Taint.cells_len (own_below' hown hb) h (i := 0) (by omega) rfl)
      have Y1 := Lib.hid (fun w' (hb : Below wo.heap.size wo w') q (h : q < S.length) => show w'.cell? ⟨g, q * 3 + 1, none⟩ = some (.string S[q].value) from flt.cell_of Taint.cells_len (own_below' hown hb) h (i := 1) (by omega) rfl)
      have Y2 := Lib.hid (fun w' (hb : Below wo.heap.size wo w') q (h : q < S.length) => show w'.cell? ⟨g, q * 3 + 2, none⟩ = some (.int .i64 S[q].effect) from flt.cell_of Taint.cells_len (own_below' hown hb) h (i := 2) (by omega) rfl)
      have Hown := Lib.hid hown
      have Hbel := Lib.hid hbel
      have hj0 : (0 : Int) ≤ (j : Int) := by omega
      have hjn : (j : Int) < (l.length : Int) := by omega
      clear hown hbel hcc hls hus hwfx
      obtain ⟨x, hx⟩ : ∃ x, x = l[j] := ⟨_, rfl⟩
      rw [← hx] at HSn X0 X1 X2
      clear hx
      have HC := Lib.hid (fun y w' => spec_lessT y x w')
      go_wp2_with fail
      go_loopw [7] (fun kv wi => ∃ kk : Nat, kk ≤ S.length ∧ kv = .int .i64 kk ∧ Hid (∀ q (h : q < kk) (h2 : q < S.length), lessT S[q] x = true) ∧ Below wo.heap.size wo wi) (fun kv _ => S.length - (intOf kv).toNat)
      case atStart => exact ⟨0, Nat.zero_le _, rfl, fun q h => by omega, Below.refl _ _⟩
      case round =>
        obtain ⟨wi, rfl⟩ : ∃ wi, wi = wr := ⟨_, rfl⟩
        obtain ⟨kk, hkS, rfl, hall, hwi⟩ := hrel
        have Hwi := Lib.hid hwi
        by_cases hkl : kk < S.length
        · have hk0 : (0 : Int) ≤ (kk : Int) := by omega
          have hk1 : (kk : Int) < (S.length : Int) := by omega
          have r0 : ∀ p : BelowBy wi, p.v.cell? ⟨g, kk * 3, none⟩ = some (.string S[kk].key) := fun p => Y0.out p.v (below_link hwi p.h hwi.size) kk hkl
          have r1 : ∀ p : BelowBy wi, p.v.cell? ⟨g, kk * 3 + 1, none⟩ = some (.string S[kk].value) := fun p => Y1.out p.v (below_link hwi p.h hwi.size) kk hkl
          have r2 : ∀ p : BelowBy wi, p.v.cell? ⟨g, kk * 3 + 2, none⟩ = some (.int .i64 S[kk].effect) := fun p => Y2.out p.v (below_link hwi p.h hwi.size) kk hkl
          have e0 : ∀ p : BelowBy wi, p.v.cell? ⟨g1, o1 + j * 3, none⟩ = some (.string x.key) := fun p => X0.out p.v (below_link hwi p.h hwi.size)
          have e1 : ∀ p : BelowBy wi, p.v.cell? ⟨g1, o1 + j * 3 + 1, none⟩ = some (.string x.value) := fun p => X1.out p.v (below_link hwi p.h hwi.size)
          have e2 : ∀ p : BelowBy wi, p.v.cell? ⟨g1, o1 + j * 3 + 2, none⟩ = some (.int .i64 x.effect) := fun p => X2.out p.v (below_link hwi p.h hwi.size)
          have HCk := Lib.hid (fun p : BelowBy wi => HC.out S[kk] p.v)
          clear hwi
          cases hb : lessT S[kk] x with
          | true =>
            have Hnx : Hid (∀ q (h : q < kk + 1) (h2 : q < S.length), lessT S[q] x = true) := fun q h h2 => by
              by_cases e : q = kk
              · subst e; exact hb
              · exact hall.out q (by omega) h2
            rw [hb] at HCk
            clear hall hb
            generalize S[kk] = y at HCk r0 r1 r2
            go_wp2_with fail
            refine wp_region_quiet_below (by kernel_rfl) (by kernel_rfl) ?_
            repeat (refine @wpQuiet_step _ _ _ _ _ _ _ ?_; intro K hK; go_simp; first | (refine hK _ ?_; clear hK K) | (apply Exists.intro; refine ⟨fun _ => ?_, hK _ ?_⟩; (first | (go_at_call 56; exact Calls.below_of (HCk.out _))); clear hK K))
            refine wpQuiet_nil ?_
            intro _ hw'
            obtain ⟨p, rfl⟩ := hw'
            go_wp2_with fail
            go_roundw
            case rel => exact ⟨kk + 1, by omega, by go_num, Hnx.out, below_link Hwi.out p.h Hwi.out.size⟩
            case measure => simp [intOf]; omega
          | false =>
            rw [hb] at HCk
            have Hr := Lib.hid (show ∀ p : BelowBy wi, p.v.cell? ⟨g, kk * 3, none⟩ = some (.string S[kk].key) ∧ p.v.cell? ⟨g, kk * 3 + 1, none⟩ = some (.string S[kk].value) ∧ p.v.cell? ⟨g, kk * 3 + 2, none⟩ = some (.int .i64 S[kk].effect) from fun p => ⟨r0 p, r1 p, r2 p⟩)
            obtain ⟨y, hy⟩ : ∃ y, y = S[kk] := ⟨_, rfl⟩
            rw [← hy] at HCk hb r0 r1 r2
            have Hy := Lib.hid hy
            clear Hr hy
            go_wp2_with fail
            refine wp_region_quiet_below (by kernel_rfl) (by kernel_rfl) ?_
            repeat (refine @wpQuiet_step _ _ _ _ _ _ _ ?_; intro K hK; go_simp; first | (refine hK _ ?_; clear hK K) | (apply Exists.intro; refine ⟨fun _ => ?_, hK _ ?_⟩; (first | (go_at_call 56; exact Calls.below_of (HCk.out _))); clear hK K))
            refine wpQuiet_nil ?_
            intro _ hw'
            obtain ⟨p, rfl⟩ := hw'
            have r0 := r0 p
            have r1 := r1 p
            have r2 := r2 p
            have e0 := e0 p
            have e1 := e1 p
            have e2 := e2 p
            obtain ⟨wd, hwd⟩ : ∃ wd, wd = p.v := ⟨_, rfl⟩
            have Hbd := Lib.hid (show Below wo.heap.size wo wd by rw [hwd]; exact below_link Hwi.out p.h Hwi.out.size)
            rw [← hwd] at r0 e0 r1 e1 r2 e2 ⊢
            clear hwd HCk
            by_cases hxy : y = x
            · have Hst := Lib.hid (insD_stay (x := x) (S := S) (k := kk) hkl (fun q h => hall.out q h (by omega)) (by rw [← Hy.out]; exact hb) (by rw [← Hy.out, hxy]; exact ordT.irr _))
              clear Hy hall hb
              subst hxy
              go_wp2_with fail
              go_quiet (fail)
              obtain ⟨wz, hwz⟩ : ∃ wz, wz = wd.drewN nq := ⟨_, rfl⟩
              have Hbz := Lib.hid (show Below wo.heap.size wo wz by rw [hwz]; exact below_drewN Hbd.out _)
              rw [← hwz]
              clear hwz
              go_wp2_with fail
              go_roundw
              case rel => exact ⟨j + 1, g, cg, S, by omega, by go_num, by unfold Hid; rw [HSn.out, Hst.out], rfl, own_below' Hown.out Hbz.out, below_link Hbel.out Hbz.out Hbel.out.size⟩
              case measure => simp [intOf]; omega
            · have Hins := Lib.hid (insD_put (lt := lessT) (x := x) (S := S) (k := kk) (Nat.le_of_lt hkl) (fun q h => hall.out q h (by omega)) (fun h => by
                rw [← Hy.out]
                refine ⟨hb, ?_⟩
                cases h2 : lessT x y with
                | true => rfl
                | false => exact absurd (Ord.tot ordT _ _ hb h2) hxy))
              clear Hy hall hb
              go_wp2_with fail
              go_cut [54] from 40 to 53 (fun sv wx => sv = .bool false ∧ Hid (∃ n, wx = wd.drewN n))
              case first =>
                by_cases h0 : y.key = x.key
                case neg =>
                  have d0 := same_no h0
                  clear hxy h0
                  go_quiet (fail)
                  go_wp2_with fail
                  go_meet
                  exact ⟨rfl, Lib.hid ⟨_, rfl⟩⟩
                have d0 := same_yes h0
                by_cases h1 : y.value = x.value
                case neg =>
                  have d1 := same_no h1
                  clear hxy h0 h1
                  go_quiet (fail)
                  go_wp2_with fail
                  go_meet
                  exact ⟨rfl, Lib.hid ⟨_, rfl⟩⟩
                have d1 := same_yes h1
                have h2 : ¬ y.effect = x.effect := fun h => hxy (by cases y; cases x; simp only at *; subst h0; subst h1; subst h; rfl)
                have d2 : (y.effect == x.effect) = false := beq_eq_false_iff_ne.2 h2
                clear hxy h0 h1 h2
                go_quiet (fail)
                go_wp2_with fail
                go_meet
                exact ⟨rfl, Lib.hid ⟨_, rfl⟩⟩
              case rest =>
                obtain ⟨rfl, hwc⟩ := hcut
                obtain ⟨n9, hn9⟩ := hwc.out
                have hbd : Below wo.heap.size wo wc := by rw [hn9]; exact below_drewN Hbd.out _
                clear hwc hn9 Hbd r0 e0 r1 e1 r2 e2
                have e0 := X0.out _ hbd
                have e1 := X1.out _ hbd
                have e2 := X2.out _ hbd
                obtain ⟨wd, hwd⟩ : ∃ wd, wd = wc := ⟨_, rfl⟩
                rw [← hwd] at hbd e0 e1 e2 ⊢
                clear hwd
                have hownd := own_below' Hown.out hbd
                have hrd1 := own_rdk hownd 0 0 (kk) (by omega) (by omega)
                rw [Nat.zero_mul, List.drop_zero, flt.take_flat Taint.cells_len] at hrd1
                have Hrd1 := Lib.hid hrd1
                have Hownd := Lib.hid hownd
                have Hbd := Lib.hid hbd
                have hk64 : kk ≤ 64 := by omega
                have hkc : kk ≤ cg := by omega
                have hkS0 : kk ≤ S.length := by omega
                have hkk0 : (0 : Int) ≤ ((kk : Nat) : Int) := by omega
                have hg1d : g1 < wd.heap.size := Nat.lt_of_lt_of_le hg1 Hbd.out.size
                clear hbd hownd hrd1
                go_wp2_with fail
                go_region_law (first
                  | (refine flt.step_first (wd := wd) rfl (.tmp 55) (.tmp 58) 35 rfl 44 i0 _ 3 40 Tryz.underlying35 hi hz0 hz1 hz2 rfl (by decide) (by decide) _ rfl ?_ ?_ (some ⟨g, 0, none⟩) (kk) cg ((S.take (kk)).flatMap Taint.cells) rfl Hrd1.out (flt.ones_flat Taint.cells_one _) hk64 ?_
                     · first | exact flt.bel1 _ _ | exact flt.bel2 _ _ _
                     · first | exact flt.lit1 _ _ _ | exact flt.lit2 _ _ _ _ | exact flt.lit3 _ _ _ _
                     intro v5 w5 hown5 hb5 hs5 hkeep5
                     have e0 := (World.cell?_of_block (hb5.block g1 hg1d)).trans e0
                     have e1 := (World.cell?_of_block (hb5.block g1 hg1d)).trans e1
                     have e2 := (World.cell?_of_block (hb5.block g1 hg1d)).trans e2
                     first | have hr5 := flt.rdk2 (k := 3) rfl hkeep5 | have hr5 := flt.rdk3 (k := 3) rfl hkeep5 | skip)
                  | (refine flt.step_second (wd := wd) rfl (.tmp 59) (.tmp 64) 35 rfl 44 i0 _ 3 40 Tryz.underlying35 hi hz0 hz1 hz2 rfl (by decide) (by decide) _ (kk) ((S.take (kk)).flatMap Taint.cells) [.string x.key, .string x.value, .int .i64 x.effect] rfl ?_ ?_ (some ⟨_, 0, none⟩) rfl ?_ (Taint.cells_one x) hk64 ?_
                     · first | exact hb5 | exact hb5.alloc hb5.size _
                     · first | exact hown5 | exact own_below' hown5 ((Below.refl _ _).alloc (Nat.le_refl _) _)
                     · first | exact hr5 | exact flt.rdk_lit _ _ _ rfl
                     intro v6 w6 hown6 hb6))
                all_goals
                  obtain ⟨g6, c6, rfl⟩ := flt.own_pos hown6 (by omega)
                  have hrd2 := (own_rdk Hownd.out (kk) (kk * 3) (S.length - kk) rfl (by omega)).below hb6
                  rw [flt.drop_flat Taint.cells_len, List.take_of_length_le (by rw [flat_length' Taint.cells_len, List.length_drop]; exact Nat.le_refl _)] at hrd2
                  have Hrd2 := Lib.hid hrd2
                  clear hrd2
                  have Hown6 := Lib.hid hown6
                  have Hb6 := Lib.hid hb6
                  have Hb06 := Lib.hid (below_link Hbel.out (below_link Hbd.out hb6 Hbd.out.size) Hbel.out.size)
                  have hwd2 : w2.heap.size ≤ wd.heap.size := Nat.le_trans Hbel.out.size Hbd.out.size
                  have hsz6 : w2.heap.size ≤ w6.heap.size := Hb06.out.size
                  clear hown6 hb6 hown5 hb5 hs5 hkeep5 e0 e1 e2
                  go_wp2_with (first | (refine wpList_append_rdk rfl (.tmp 66) (.tmp 69) 35 rfl wd.heap.size 44 i0 _ 3 40 Tryz.underlying35 hi hz0 hz1 hz2 rfl (by decide) _ (kk + 1) _ rfl Hown6.out _ (S.length - kk) _ ((S.drop kk).flatMap Taint.cells) rfl (Hrd2.out) (flt.ones_flat Taint.cells_one _) (by unfold maxLen; omega) (by omega) Hb6.out.size ?_) | fail)
                  all_goals
                    intro v7 w7 h7 hg7 hat7
                    have HSl : Hid (S.length + 1 = (dsort lessT (l.take (j + 1))).length) := by
                      unfold Hid
                      rw [HSn.out, Hins.out, List.length_append, List.length_take, List.length_cons, List.length_drop]
                      omega
                    have en : kk + 1 + (S.length - kk) = (dsort lessT (l.take (j + 1))).length := by have h9 := HSl.out; omega
                    have e7 : ((S.take (kk)).flatMap Taint.cells ++ [.string x.key, .string x.value, .int .i64 x.effect]) ++ ((S.drop kk).flatMap Taint.cells) = (dsort lessT (l.take (j + 1))).flatMap Taint.cells := by
                      rw [HSn.out, Hins.out, List.flatMap_append, List.flatMap_cons, List.append_assoc]
                      rfl
                    have h7 : w7.ownsRow wd.heap.size 44 3 v7 (kk + 1 + (S.length - kk)) ((((S.take (kk)).flatMap Taint.cells ++ [.string x.key, .string x.value, .int .i64 x.effect])) ++ ((S.drop kk).flatMap Taint.cells)) := by simpa using h7
                    rw [e7, en] at h7
                    obtain ⟨g7, c7, rfl⟩ := flt.own_pos h7 (by rw [← en]; omega)
                    have Hown7 := Lib.hid (own_lower' h7 hwd2)
                    have Hb7 := Lib.hid (Hb06.out.grown hg7 hsz6 (fun b hb => by have := (Hown6.out.lt b hb).1; omega))
                    clear h7 hg7 hat7 e7 en
                    go_wp2_with fail
                    go_roundw
                    case rel => exact ⟨j + 1, g7, c7, _, by omega, by go_num, rfl, rfl, Hown7.out, Hb7.out⟩
                    case measure => simp [intOf]; omega
        · obtain rfl : kk = S.length := by omega
          have Hins := Lib.hid (insD_put (lt := lessT) (x := x) (S := S) (k := S.length) (Nat.le_refl _) (fun q h => hall.out q h h) (fun h => absurd h (Nat.lt_irrefl _)))
          clear hall hwi
          go_wp2_with fail
          go_quiet (fail)
          obtain ⟨wd0, hwd0⟩ : ∃ wd0, wd0 = wi.drewN nq := ⟨_, rfl⟩
          have Hwd0 := Lib.hid (show Below wo.heap.size wo wd0 by rw [hwd0]; exact below_drewN Hwi.out _)
          rw [← hwd0]
          clear hwd0 Hwi
          go_wp2_with fail
          go_quiet (fail)
          obtain ⟨wc, hwc⟩ : ∃ wc, wc = wd0.drewN nq := ⟨_, rfl⟩
          have hbd : Below wo.heap.size wo wc := by rw [hwc]; exact below_drewN Hwd0.out _
          rw [← hwc]
          clear hwc Hwd0
          have e0 := X0.out _ hbd
          have e1 := X1.out _ hbd
          have e2 := X2.out _ hbd
          obtain ⟨wd, hwd⟩ : ∃ wd, wd = wc := ⟨_, rfl⟩
          rw [← hwd] at hbd e0 e1 e2 ⊢
          clear hwd
          have hownd := own_below' Hown.out hbd
          have hrd1 := own_rdk hownd 0 0 (S.length) (by omega) (by omega)
          rw [Nat.zero_mul, List.drop_zero, flt.take_flat Taint.cells_len] at hrd1
          have Hrd1 := Lib.hid hrd1
          have Hownd := Lib.hid hownd
          have Hbd := Lib.hid hbd
          have hk64 : S.length ≤ 64 := by omega
          have hkc : S.length ≤ cg := by omega
          have hkS0 : S.length ≤ S.length := by omega
          have hkk0 : (0 : Int) ≤ ((S.length : Nat) : Int) := by omega
          have hg1d : g1 < wd.heap.size := Nat.lt_of_lt_of_le hg1 Hbd.out.size
          clear hbd hownd hrd1
          go_wp2_with fail
          go_region_law (first
            | (refine flt.step_first (wd := wd) rfl (.tmp 55) (.tmp 58) 35 rfl 44 i0 _ 3 40 Tryz.underlying35 hi hz0 hz1 hz2 rfl (by decide) (by decide) _ rfl ?_ ?_ (some ⟨g, 0, none⟩) (S.length) cg ((S.take (S.length)).flatMap Taint.cells) rfl Hrd1.out (flt.ones_flat Taint.cells_one _) hk64 ?_
               · first | exact flt.bel1 _ _ | exact flt.bel2 _ _ _
               · first | exact flt.lit1 _ _ _ | exact flt.lit2 _ _ _ _ | exact flt.lit3 _ _ _ _
               intro v5 w5 hown5 hb5 hs5 hkeep5
               have e0 := (World.cell?_of_block (hb5.block g1 hg1d)).trans e0
               have e1 := (World.cell?_of_block (hb5.block g1 hg1d)).trans e1
               have e2 := (World.cell?_of_block (hb5.block g1 hg1d)).trans e2
               first | have hr5 := flt.rdk2 (k := 3) rfl hkeep5 | have hr5 := flt.rdk3 (k := 3) rfl hkeep5 | skip)
            | (refine flt.step_second (wd := wd) rfl (.tmp 59) (.tmp 64) 35 rfl 44 i0 _ 3 40 Tryz.underlying35 hi hz0 hz1 hz2 rfl (by decide) (by decide) _ (S.length) ((S.take (S.length)).flatMap Taint.cells) [.string x.key, .string x.value, .int .i64 x.effect] rfl ?_ ?_ (some ⟨_, 0, none⟩) rfl ?_ (Taint.cells_one x) hk64 ?_
               · first | exact hb5 | exact hb5.alloc hb5.size _
               · first | exact hown5 | exact own_below' hown5 ((Below.refl _ _).alloc (Nat.le_refl _) _)
               · first | exact hr5 | exact flt.rdk_lit _ _ _ rfl
               intro v6 w6 hown6 hb6))
          all_goals
            obtain ⟨g6, c6, rfl⟩ := flt.own_pos hown6 (by omega)
            have Hown6 := Lib.hid hown6
            have Hb6 := Lib.hid hb6
            have Hb06 := Lib.hid (below_link Hbel.out (below_link Hbd.out hb6 Hbd.out.size) Hbel.out.size)
            have hwd2 : w2.heap.size ≤ wd.heap.size := Nat.le_trans Hbel.out.size Hbd.out.size
            have hsz6 : w2.heap.size ≤ w6.heap.size := Hb06.out.size
            clear hown6 hb6 hown5 hb5 hs5 hkeep5 e0 e1 e2
            go_wp2_with (first | (refine wpList_append_rdk rfl (.tmp 66) (.tmp 69) 35 rfl wd.heap.size 44 i0 _ 3 40 Tryz.underlying35 hi hz0 hz1 hz2 rfl (by decide) _ (S.length + 1) _ rfl Hown6.out _ (0) _ ([] : List Value) rfl (RdK.nil _ _ _) (fun u hu => by cases hu) (by unfold maxLen; omega) (by omega) Hb6.out.size ?_) | fail)
            all_goals
              intro v7 w7 h7 hg7 hat7
              have HSl : Hid (S.length + 1 = (dsort lessT (l.take (j + 1))).length) := by
                unfold Hid
                rw [HSn.out, Hins.out, List.length_append, List.length_take, List.length_cons, List.length_drop]
                omega
              have en : S.length + 1 + (0) = (dsort lessT (l.take (j + 1))).length := by have h9 := HSl.out; omega
              have e7 : ((S.take (S.length)).flatMap Taint.cells ++ [.string x.key, .string x.value, .int .i64 x.effect]) ++ ([] : List Value) = (dsort lessT (l.take (j + 1))).flatMap Taint.cells := by
                rw [HSn.out, Hins.out, List.flatMap_append, List.flatMap_cons, List.append_assoc]
                rw [List.drop_of_length_le (Nat.le_refl _)]; rfl
              have h7 : w7.ownsRow wd.heap.size 44 3 v7 (S.length + 1 + (0)) ((((S.take (S.length)).flatMap Taint.cells ++ [.string x.key, .string x.value, .int .i64 x.effect])) ++ ([] : List Value)) := by simpa using h7
              rw [e7, en] at h7
              obtain ⟨g7, c7, rfl⟩ := flt.own_pos h7 (by rw [← en]; omega)
              have Hown7 := Lib.hid (own_lower' h7 hwd2)
              have Hb7 := Lib.hid (Hb06.out.grown hg7 hsz6 (fun b hb => by have := (Hown6.out.lt b hb).1; omega))
              clear h7 hg7 hat7 e7 en
              go_wp2_with fail
              go_roundw
              case rel => exact ⟨j + 1, g7, c7, _, by omega, by go_num, rfl, rfl, Hown7.out, Hb7.out⟩
              case measure => simp [intOf]; omega
    · obtain rfl : j = l.length := by omega
      have hSe := hS.out
      rw [List.take_length] at hSe
      subst hSe
      clear hS
      have hbw := below_link Hb2.out hbel Hb2.out.size
      have hwfS : ∀ x ∈ dsort lessT l, x.Wf := fun x hx => Hwf.out x (dsort_sub _ _ x hx)
      obtain ⟨F, ho, hnd, _⟩ := own_Taint (own_lower' hown hge) hwfS
      obtain ⟨F2, ho2, hnd2, _⟩ := own_Taint (own_below' Hown2.out hbel) Hwf.out
      have HC := Lib.hid (spec_oksTaint (dsort lessT l) _ _ wo ho.lies HWT.out)
      have HR1 := Lib.hid (fun w9 (hb : Below wo.heap.size wo w9) => show ListOut w w9 (.returned (.tuple #[.slice (some ⟨g, 0, none⟩) (dsort lessT l).length cg, .bool true])) 3 Taint.row (dsort lessT l, true) from ⟨_, 1, F, rfl, ho.below hb, hnd, below_link hbw hb hbw.size⟩)
      have HR2 := Lib.hid (fun w9 (hb : Below wo.heap.size wo w9) => show ListOut w w9 (.returned (.tuple #[.slice A2 l.length c2, .bool false])) 3 Taint.row (l, false) from ⟨_, 1, F2, rfl, ho2.below hb, hnd2, below_link hbw hb hbw.size⟩)
      clear hown hbel hbw ho ho2 hnd hnd2 hwfS
      by_cases hP : TaintsP (dsort lessT l)
      · rw [yes_t hP] at HC
        have HS := Lib.hid (Hyes.out hP)
        clear hP Hyes Hno
        generalize dsort lessT l = d at *
        go_wp2_with fail
        refine HC.out.mono ?_
        rintro e w4 ⟨rfl, hb⟩
        have HR := Lib.hid (HR1.out w4 hb)
        clear hb
        go_wp2_with fail
        go_ret2
        rw [HS.out]
        exact HR.out
      · rw [yes_f hP] at HC
        have HS := Lib.hid (Hno.out hP)
        clear hP Hyes Hno
        generalize dsort lessT l = d at HC HR1
        go_wp2_with fail
        refine HC.out.mono ?_
        rintro e w4 ⟨rfl, hb⟩
        have HR := Lib.hid (HR2.out w4 hb)
        clear hb
        go_wp2_with fail
        go_ret2
        rw [HS.out]
        exact HR.out
end Go.Proofs.YtdgedclpaplgoaaGreatDoor.taint
