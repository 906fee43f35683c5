/- FnSelects: for every byte slice the law returns true. -/
import Derived.Test.YtjcfaepklakpkaaDoorDrawNs
import Derived.Test.YtjcfaepklakpkaaDoorMoreN
import Derived.Test.YtjcfaepklakpkaaDoorMetI
import Derived.Test.YtjcfaepklakpkaaDoorMetS
import Derived.Test.YtjcfaepklakpkaaDoorSelectI
import Derived.Test.YtjcfaepklakpkaaDoorSelectS
import Derived.Test.YtjcfaepklakpkaaDoorGIdI
import Derived.Test.YtjcfaepklakpkaaDoorGNS
import Derived.Test.YtjcfaepklakpkaaDoorBigL
import Derived.Deep.Cut
import Derived.Deep.CutBlock
namespace Go.Proofs.YtjcfaepklakpkaaDoor.fnSelects
open Go.ChangeShapes Go.WideShapes Go.ChangeAt Go.RowKit
open lab ty draw need dedup
set_option linter.unusedVariables false

/-- The operation that is met where the other is not. -/
def Flip (a b : Int) : Prop := (a = 1 ∧ b = 2) ∨ (a = 2 ∧ b = 1) ∨ (a = 3 ∧ b = 4) ∨ (a = 4 ∧ b = 3)
theorem flip_need {k : ByteArray} {vs : List ByteArray} {a b : Int} (h : NeedP ⟨k, a, vs⟩) (he : Flip a b) : NeedP ⟨k, b, vs⟩ := by
  have h1 := h.none
  have h2 := h.some
  unfold Flip at he
  simp only at h1 h2
  exact ⟨h.key, by simp only; omega, by simp only; omega, fun hb => h1 (by simp only at hb; omega), fun hb => h2 (by simp only at hb; omega)⟩
theorem flip_met {l : List Label} {k : ByteArray} {vs : List ByteArray} {a b : Int} (h : NeedP ⟨k, a, vs⟩) (he : Flip a b) : metF l ⟨k, b, vs⟩ = !metF l ⟨k, a, vs⟩ := by
  rw [met_yes h, met_yes (flip_need h he)]
  unfold metO
  rcases he with ⟨rfl, rfl⟩ | ⟨rfl, rfl⟩ | ⟨rfl, rfl⟩ | ⟨rfl, rfl⟩ <;> cases atF l k <;> simp
theorem sel_more (l : List Need) (x : Need) (labs : List Label) : selF (l ++ [x]) labs = (selF l labs && metF labs x) := by
  unfold selF
  rw [List.all_append]
  simp
theorem wsum_snoc (l : List Need) (x : Need) : wsum Need.wt (l ++ [x]) = wsum Need.wt l + x.wt := by simp [wsum]
/-- Behind the switch. -/
def SwAt (w : World) (b6 b7 : Nat) (k : ByteArray) (op : Int) (vals : List ByteArray) (v : Value) (Z : World) : Prop :=
  ∃ op' : Int, (Lit.int .i64 op').wf = true ∧ Z.heap[b6]? = some (.cells #[.string k, .int .i64 op, v] 30 (0, 0)) ∧ Z.heap[b7]? = some (.cells #[.string k, .int .i64 op', v] 30 (0, 0)) ∧ Below w.heap.size w Z ∧ (NeedP ⟨k, op, vals⟩ → Flip op op')
theorem flipped {w Y : World} {b6 b7 : Nat} {k : ByteArray} {op op' : Int} {vals : List ByteArray} {v : Value} (h6 : Y.heap[b6]? = some (.cells #[.string k, .int .i64 op, v] 30 (0, 0))) (h7 : Y.heap[b7]? = some (.cells #[.string k, .int .i64 op, v] 30 (0, 0)))
    (hne : b6 ≠ b7) (hb : Below w.heap.size w Y) (hB : w.heap.size ≤ b7) (hwf : (Lit.int .i64 op').wf = true) (he : Flip op op') : SwAt w b6 b7 k op vals v (Y.setCell ⟨b7, 1, none⟩ (.int .i64 op')) :=
  ⟨op', hwf, (Below.heap_setCell _ _ _ _ hne).trans h6, heap_setCell_same _ _ _ _ _ _ h7, hb.setCell hB _, fun _ => he⟩
theorem lies_op {w : World} {f : Nat} {k : ByteArray} {op op' : Int} {vals : List ByteArray} {v : Value} (h : LiesS w f [.string k, .int .i64 op, v] (Need.row ⟨k, op, vals⟩)) (hwf : (Lit.int .i64 op').wf = true) : LiesS w f [.string k, .int .i64 op', v] (Need.row ⟨k, op', vals⟩) := by
  refine ⟨rfl, fun m u d hu hd => ?_⟩
  rcases m with _ | _ | _ | m
  · exact h.2 0 u d hu hd
  · have h1 := h.2 1 _ _ rfl rfl
    injection hu with hu
    injection hd with hd
    subst hu hd
    cases f with
    | zero => exact absurd h1 (by simp [Lies])
    | succ f => exact ⟨rfl, hwf⟩
  · exact h.2 2 u d hu hd
  · simp at hu
theorem lies_none (w : World) : Lies w 1 (.slice none 0 0) (.sl 3 ([] : List Need).length (([] : List Need).flatMap Need.row)) := ⟨none, 0, rfl, Nat.le_refl _, by unfold maxLen; omega, rfl, fun h => absurd h (by simp)⟩
theorem op_cases (n : Int) : n = 1 ∨ n = 2 ∨ n = 3 ∨ n = 4 ∨ (n ≠ 1 ∧ n ≠ 2 ∧ n ≠ 3 ∧ n ≠ 4) := by omega
set_option maxRecDepth 1000000 in
set_option maxHeartbeats 16000000 in
theorem walk (A : Option Addr) (len cap : Nat) (zs : List Int) (W : World) (hr : IsRow .u8 W A len cap zs) :
    Calls Tryd.prog 3 #[.slice A len cap] W fun e w' => e = .returned (.bool true) ∧ Below W.heap.size W w' := by
  have hm := hr.le
  have hB := Lib.hid (lawBig.any A len cap W hm)
  unfold maxLen at hm
  by_cases h1 : 1048576 < len
  · clear hr
    go_enter Tryd.func3, Tryd.ntmps3
    go_wp2_with fail
    refine hB.out.mono ?_
    rintro e w1 ⟨rfl, rfl⟩
    go_wp2_with fail
    go_ret
    exact ⟨rfl, Below.refl _ _⟩
  have HD := Lib.hid (draw.selects_any A len cap zs W hr (by omega))
  have HD2 := Lib.hid (fun w1 (hb : Below W.heap.size W w1) => draw.met_any A len cap zs w1 (hr.below hb) (by omega))
  clear hr
  go_enter Tryd.func3, Tryd.ntmps3
  go_wp2_with fail
  refine hB.out.mono ?_
  rintro e w1 ⟨rfl, rfl⟩
  clear hB
  go_wp2_with fail
  refine HD.out.mono ?_
  clear HD
  rintro e w2 ⟨l, labs, v, v2, f, f2, hl, hlabs, rfl, hL, hLb, hb2⟩
  obtain ⟨A1, c1, rfl, _⟩ := els_of Need.row_length hL
  obtain ⟨A2, c2, rfl, _⟩ := els_of Label.row_length hLb
  have HM := Lib.hid (HD2.out w2 hb2)
  have HL := Lib.hid hL
  have HLb := Lib.hid hLb
  have Hb2 := Lib.hid hb2
  have Hl := Lib.hid hl
  clear HD2 hl hlabs hL hLb hb2
  go_wp2_with fail
  refine HM.out.mono ?_
  clear HM
  rintro e w3 ⟨⟨k, op, vals⟩, v3, us, hx, rfl, hus, hb3⟩
  obtain ⟨A3, c3, rfl, hwf, n3, m3, l3⟩ := Need.opened hus
  simp only at *
  have hop := op_cases op
  obtain ⟨X, hX⟩ : ∃ X, X = w3.alloc (.cells #[.string k, .int .i64 op, .slice A3 vals.length c3] 30) := ⟨_, rfl⟩
  obtain ⟨Y, hY⟩ : ∃ Y, Y = X.alloc (.cells #[.string k, .int .i64 op, .slice A3 vals.length c3] 30) := ⟨_, rfl⟩
  have hX6 : X.heap[w3.heap.size]? = some (.cells #[.string k, .int .i64 op, .slice A3 vals.length c3] 30 (0, 0)) := by rw [hX]; exact heap_alloc_new w3 _
  have hXs : X.heap.size = w3.heap.size + 1 := by rw [hX]; simp
  have hbX : Below w3.heap.size w3 X := by rw [hX]; exact (Below.refl _ _).alloc (Nat.le_refl _) _
  have hbY : Below X.heap.size X Y := by rw [hY]; exact (Below.refl _ _).alloc (Nat.le_refl _) _
  have hY6 := heap_kept hbY (heap_lt hX6) hX6
  have hY7 : Y.heap[X.heap.size]? = some (.cells #[.string k, .int .i64 op, .slice A3 vals.length c3] 30 (0, 0)) := by rw [hY]; exact heap_alloc_new X _
  have hYs : Y.heap.size = w3.heap.size + 2 := by rw [hY]; simp [hXs]
  have hb3Y : Below w3.heap.size w3 Y := below_link hbX hbY hbX.size
  have x0 : X.cell? ⟨w3.heap.size, 0, none⟩ = some (.string k) := by rw [cell_of_row _ _ 0 _ _ _ hX6]; rfl
  have x1 : X.cell? ⟨w3.heap.size, 1, none⟩ = some (.int .i64 op) := by rw [cell_of_row _ _ 1 _ _ _ hX6]; rfl
  have x2 : X.cell? ⟨w3.heap.size, 2, none⟩ = some (.slice A3 vals.length c3) := by rw [cell_of_row _ _ 2 _ _ _ hX6]; rfl
  have y1 : Y.cell? ⟨w3.heap.size, 1, none⟩ = some (.int .i64 op) := by rw [cell_of_row _ _ 1 _ _ _ hY6]; rfl
  have y7 : Y.cell? ⟨X.heap.size, 1, none⟩ = some (.int .i64 op) := by rw [cell_of_row _ _ 1 _ _ _ hY7]; rfl
  have f7 := frozen_of_row Y _ 1 _ _ hY7
  have hone : (#[Value.string k, .int .i64 op, .slice A3 vals.length c3]).all (·.oneCell') = true := by simp [Value.oneCell']
  have Hx := Lib.hid hx
  have Hus := Lib.hid hus
  have HX := Lib.hid hX
  have HY := Lib.hid hY
  have HY6 := Lib.hid hY6
  have HY7 := Lib.hid hY7
  have HXs := Lib.hid hXs
  have HYs := Lib.hid hYs
  have Hb3Y := Lib.hid hb3Y
  have HW3 := Lib.hid (show Below W.heap.size W w3 from below_link Hb2.out hb3 Hb2.out.size)
  have HL3 := Lib.hid (HL.out.below hb3)
  have HLb3 := Lib.hid (HLb.out.below hb3)
  clear hx hus hwf n3 m3 l3 hX hY hX6 hXs hbX hbY hY6 hY7 hYs hb3Y hb3 HL HLb Hb2
  have hne : w3.heap.size ≠ X.heap.size := by rw [HXs.out]; omega
  have Hne := Lib.hid hne
  clear hne
  go_upto_block 0 with (first | (refine wpList_store_row rfl 30 _ _ rfl w3.heap.size #[.string k, .int .i64 op, .slice A3 vals.length c3] rfl rfl 30 _ (heap_alloc_new w3 _) sizeNeed rfl hone ?_; rw [World.setRow_alloc_new, ← HX.out]) | (refine wpList_store_row rfl 30 _ _ rfl X.heap.size #[.string k, .int .i64 op, .slice A3 vals.length c3] rfl rfl 30 _ (heap_alloc_new X _) sizeNeed rfl hone ?_; rw [World.setRow_alloc_new, ← HY.out]) | fail)
  clear x0 x1 x2 HX HY HYs hone
  go_cut [5] from 21 (fun s5 wx => s5 = v3 ∧ SwAt w3 w3.heap.size X.heap.size k op vals (.slice A3 vals.length c3) wx)
  case first =>
    rcases hop with rfl | rfl | rfl | rfl | ⟨hn1, hn2, hn3, hn4⟩
    · go_wp2_with fail
      go_meet
      exact ⟨rfl, flipped HY6.out HY7.out Hne.out Hb3Y.out (by rw [HXs.out]; omega) (by decide) (by unfold Flip; omega)⟩
    · go_wp2_with fail
      go_meet
      exact ⟨rfl, flipped HY6.out HY7.out Hne.out Hb3Y.out (by rw [HXs.out]; omega) (by decide) (by unfold Flip; omega)⟩
    · go_wp2_with fail
      go_meet
      exact ⟨rfl, flipped HY6.out HY7.out Hne.out Hb3Y.out (by rw [HXs.out]; omega) (by decide) (by unfold Flip; omega)⟩
    · go_wp2_with fail
      go_meet
      exact ⟨rfl, flipped HY6.out HY7.out Hne.out Hb3Y.out (by rw [HXs.out]; omega) (by decide) (by unfold Flip; omega)⟩
    · go_wp2_with fail
      go_meet
      exact ⟨rfl, op, (Hx.out.wf).2, HY6.out, HY7.out, Hb3Y.out, fun h => by have h1 := h.lo; have h2 := h.hi; simp only at h1 h2; omega⟩
  case rest =>
    obtain ⟨rfl, hs⟩ := hcut
    have HS := Lib.hid hs
    obtain ⟨Z, rfl⟩ : ∃ Z, Z = wc := ⟨_, rfl⟩
    clear hs hop y1 y7 f7 HY6 HY7 Hb3Y
    obtain ⟨op', hwf, z6, z7, zb, hfl⟩ := HS.out
    have hwt := Hx.out.wt
    have hwt2 : (Need.mk k op' vals).wt ≤ 1048576 := by have h := hwt; unfold Need.wt at h ⊢; simp only at h ⊢; omega
    have hu2 := lies_op Hus.out hwf
    have q60 : ∀ p : BelowBy Z, p.v.cell? ⟨w3.heap.size, 0, none⟩ = some (.string k) := fun p => p.cell (heap_lt z6) (by rw [cell_of_row _ _ 0 _ _ _ z6]; rfl)
    have q61 : ∀ p : BelowBy Z, p.v.cell? ⟨w3.heap.size, 1, none⟩ = some (.int .i64 op) := fun p => p.cell (heap_lt z6) (by rw [cell_of_row _ _ 1 _ _ _ z6]; rfl)
    have q62 : ∀ p : BelowBy Z, p.v.cell? ⟨w3.heap.size, 2, none⟩ = some (.slice A3 vals.length c3) := fun p => p.cell (heap_lt z6) (by rw [cell_of_row _ _ 2 _ _ _ z6]; rfl)
    have q70 : ∀ p : BelowBy Z, p.v.cell? ⟨X.heap.size, 0, none⟩ = some (.string k) := fun p => p.cell (heap_lt z7) (by rw [cell_of_row _ _ 0 _ _ _ z7]; rfl)
    have q71 : ∀ p : BelowBy Z, p.v.cell? ⟨X.heap.size, 1, none⟩ = some (.int .i64 op') := fun p => p.cell (heap_lt z7) (by rw [cell_of_row _ _ 1 _ _ _ z7]; rfl)
    have q72 : ∀ p : BelowBy Z, p.v.cell? ⟨X.heap.size, 2, none⟩ = some (.slice A3 vals.length c3) := fun p => p.cell (heap_lt z7) (by rw [cell_of_row _ _ 2 _ _ _ z7]; rfl)
    have HN := Lib.hid (fun p : BelowBy Z => spec_need ⟨k, op, vals⟩ 2 [.string k, .int .i64 op, .slice A3 vals.length c3] p.v (Hus.out.below (below_link zb p.h zb.size)) (by omega))
    have HM1 := Lib.hid (fun p : BelowBy Z => impl_met labs ⟨k, op, vals⟩ f2 2 _ [.string k, .int .i64 op, .slice A3 vals.length c3] p.v (HLb3.out.below (below_link zb p.h zb.size)) (Hus.out.below (below_link zb p.h zb.size)) (by omega))
    have HM2 := Lib.hid (fun p : BelowBy Z => impl_met labs ⟨k, op', vals⟩ f2 2 _ [.string k, .int .i64 op', .slice A3 vals.length c3] p.v (HLb3.out.below (below_link zb p.h zb.size)) (hu2.below (below_link zb p.h zb.size)) hwt2)
    have Hz6 := Lib.hid z6
    have Hzb := Lib.hid zb
    have Hwt := Lib.hid (show (Need.mk k op vals).wt ≤ 34 by omega)
    have Hfl := Lib.hid hfl
    clear hwf z6 z7 zb hfl hwt hwt2 hu2 HS
    go_upto_region 15 with fail
    go_cut [46] from 21 (fun s46 wx => s46 = .bool false ∧ Below Z.heap.size Z wx)
    case first =>
      by_cases hP : NeedP ⟨k, op, vals⟩
      · rw [yes_t hP] at HN
        rw [flip_met hP (Hfl.out hP)] at HM2
        clear hP Hfl
        generalize metF labs ⟨k, op, vals⟩ = R at HM1 HM2
        cases R <;>
        · refine wp_region_quiet_below (by kernel_rfl) (by kernel_rfl) ?_
          repeat (refine @wpQuiet_step _ _ _ _ _ _ _ ?_; intro K hK; go_simp; refine hK _ ?_; clear hK K)
          (refine @wpQuiet_step _ _ _ _ _ _ _ ?_; intro K hK; go_simp; apply Exists.intro; refine ⟨fun _ => ?_, hK _ ?_⟩; (go_at_call 12; exact Calls.below_of (HN.out _)); clear hK K)
          repeat (refine @wpQuiet_step _ _ _ _ _ _ _ ?_; intro K hK; go_simp; refine hK _ ?_; clear hK K)
          (refine @wpQuiet_step _ _ _ _ _ _ _ ?_; intro K hK; go_simp; apply Exists.intro; refine ⟨fun _ => ?_, hK _ ?_⟩; (go_at_call 13; exact Calls.below_of (HM1.out _)); clear hK K)
          repeat (refine @wpQuiet_step _ _ _ _ _ _ _ ?_; intro K hK; go_simp; refine hK _ ?_; clear hK K)
          (refine @wpQuiet_step _ _ _ _ _ _ _ ?_; intro K hK; go_simp; apply Exists.intro; refine ⟨fun _ => ?_, hK _ ?_⟩; (go_at_call 13; exact Calls.below_of (HM2.out _)); clear hK K)
          repeat (refine @wpQuiet_step _ _ _ _ _ _ _ ?_; intro K hK; go_simp; refine hK _ ?_; clear hK K)
          refine wpQuiet_nil ?_
          intro _ hw'
          obtain ⟨p, rfl⟩ := hw'
          go_wp2_with fail
          go_meet
          exact ⟨rfl, p.h⟩
      · rw [yes_f hP] at HN
        clear hP Hfl HM1 HM2
        refine wp_region_quiet_below (by kernel_rfl) (by kernel_rfl) ?_
        repeat (refine @wpQuiet_step _ _ _ _ _ _ _ ?_; intro K hK; go_simp; refine hK _ ?_; clear hK K)
        (refine @wpQuiet_step _ _ _ _ _ _ _ ?_; intro K hK; go_simp; apply Exists.intro; refine ⟨fun _ => ?_, hK _ ?_⟩; (go_at_call 12; exact Calls.below_of (HN.out _)); clear hK K)
        repeat (refine @wpQuiet_step _ _ _ _ _ _ _ ?_; intro K hK; go_simp; refine hK _ ?_; clear hK K)
        refine wpQuiet_nil ?_
        intro _ hw'
        obtain ⟨p, rfl⟩ := hw'
        go_wp2_with fail
        go_meet
        exact ⟨rfl, p.h⟩
    case rest =>
      obtain ⟨rfl, hb4⟩ := hcut
      obtain ⟨wd, rfl⟩ : ∃ wd, wd = wc := ⟨_, rfl⟩
      have hd5 := heap_kept hb4 (heap_lt Hz6.out) Hz6.out
      have hbd := below_link Hzb.out hb4 Hzb.out.size
      have e0 : wd.cell? ⟨w3.heap.size, 0, none⟩ = some (.string k) := by rw [cell_of_row _ _ 0 _ _ _ hd5]; rfl
      have e1 : wd.cell? ⟨w3.heap.size, 1, none⟩ = some (.int .i64 op) := by rw [cell_of_row _ _ 1 _ _ _ hd5]; rfl
      have e2 : wd.cell? ⟨w3.heap.size, 2, none⟩ = some (.slice A3 vals.length c3) := by rw [cell_of_row _ _ 2 _ _ _ hd5]; rfl
      have hgd := heap_lt hd5
      obtain ⟨fr, xs, hrd, hxs⟩ := raw_list (HL3.out.below hbd)
      have Hrd1 := Lib.hid hrd
      have Hxs := Lib.hid hxs
      have Hones1 := Lib.hid (lies_ones hxs)
      have Hones2 := Lib.hid (show ∀ u ∈ [Value.string k, .int .i64 op, .slice A3 vals.length c3], u.oneCell' = true from by intro u hu; simp at hu; rcases hu with rfl | rfl | rfl <;> rfl)
      have hk64 : l.length ≤ 64 := by have := Hl.out.1; omega
      have Hd5 := Lib.hid hd5
      have Hbd := Lib.hid hbd
      clear q60 q61 q62 q70 q71 q72 HN HM1 HM2 Hz6 Hzb Hfl hd5 hbd hrd hxs hb4
      go_upto_region 17 with fail
      go_cut [8] from 47 (fun s8 wx => MoreAt wd (l ++ [⟨k, op, vals⟩]) s8 wx)
      case first =>
        go_region_law (first
          | (refine more_first (wd := wd) 47 48 rfl rfl _ rfl ?_ ?_ A1 l.length c1 xs rfl Hrd1.out Hones1.out hk64 ?_
             · first | exact belV1 _ _ | exact belV2 _ _ _
             · first | exact litN1 _ | exact litN2 _ _ | exact litN3 _ _
             intro v5 w5b hown5 hb5 hs5 hkeep5
             have e05 := (World.cell?_of_block (hb5.block w3.heap.size hgd)).trans e0
             have e15 := (World.cell?_of_block (hb5.block w3.heap.size hgd)).trans e1
             have e25 := (World.cell?_of_block (hb5.block w3.heap.size hgd)).trans e2
             first | have hr5 := rdkN2 hkeep5 | have hr5 := rdkN3 hkeep5 | skip)
          | (refine more_second (wd := wd) 49 51 rfl rfl _ l.length xs [.string k, .int .i64 op, .slice A3 vals.length c3] rfl ?_ ?_ (some ⟨_, 0, none⟩) rfl ?_ Hones2.out hk64 ?_
             · first | exact hb5 | exact hb5.alloc hb5.size _
             · first | exact hown5 | exact own_below' hown5 ((Below.refl _ _).alloc (Nat.le_refl _) _)
             · first | exact hr5 | exact rdkN_lit _ _ _ _
             intro v6 w6 hown6 hb6))
        all_goals
          go_wp2_with fail
          go_meet
          exact more_at Hxs.out (Hus.out.below Hbd.out) hown6 hb6
      case rest =>
        obtain ⟨f8, A8, c8, rfl, hL8, hb8⟩ := hcut
        have h8 := heap_kept hb8 (heap_lt Hd5.out) Hd5.out
        have hbc := below_link Hbd.out hb8 Hbd.out.size
        have r0 : ∀ p : BelowBy wc, p.v.cell? ⟨w3.heap.size, 0, none⟩ = some (.string k) := fun p => p.cell (heap_lt h8) (by rw [cell_of_row _ _ 0 _ _ _ h8]; rfl)
        have r1 : ∀ p : BelowBy wc, p.v.cell? ⟨w3.heap.size, 1, none⟩ = some (.int .i64 op) := fun p => p.cell (heap_lt h8) (by rw [cell_of_row _ _ 1 _ _ _ h8]; rfl)
        have r2 : ∀ p : BelowBy wc, p.v.cell? ⟨w3.heap.size, 2, none⟩ = some (.slice A3 vals.length c3) := fun p => p.cell (heap_lt h8) (by rw [cell_of_row _ _ 2 _ _ _ h8]; rfl)
        have hwl := Hl.out.wts (by omega) (by omega)
        have hwm : (l ++ [Need.mk k op vals]).length + wsum Need.wt (l ++ [Need.mk k op vals]) ≤ 1048576 := by have h1 := Hwt.out; have h2 := tiny_wts l Hl.out.2; have h3 := Hl.out.1; have h4 : (10 + 6 * 4) * l.length ≤ 34 * 11 := Nat.mul_le_mul_left _ h3; rw [wsum_snoc, List.length_append, List.length_singleton]; omega
        have HS1 := Lib.hid (fun p : BelowBy wc => impl_selects l labs f f2 _ _ p.v (HL3.out.below (below_link hbc p.h hbc.size)) (HLb3.out.below (below_link hbc p.h hbc.size)) hwl)
        have HS2 := Lib.hid (fun p : BelowBy wc => spec_selects l labs f f2 _ _ p.v (HL3.out.below (below_link hbc p.h hbc.size)) (HLb3.out.below (below_link hbc p.h hbc.size)) hwl)
        have HS3 := Lib.hid (fun p : BelowBy wc => impl_selects (l ++ [⟨k, op, vals⟩]) labs f8 f2 _ _ p.v (hL8.below p.h) (HLb3.out.below (below_link hbc p.h hbc.size)) hwm)
        have HS0 := Lib.hid (fun p : BelowBy wc => impl_selects [] labs 1 f2 (.slice none 0 0) _ p.v (lies_none p.v) (HLb3.out.below (below_link hbc p.h hbc.size)) (by simp [wsum]))
        have HN1 := Lib.hid (fun p : BelowBy wc => impl_need ⟨k, op, vals⟩ 2 [.string k, .int .i64 op, .slice A3 vals.length c3] p.v (Hus.out.below (below_link hbc p.h hbc.size)) (by have := Hwt.out; omega))
        have HN2 := Lib.hid (fun p : BelowBy wc => spec_need ⟨k, op, vals⟩ 2 [.string k, .int .i64 op, .slice A3 vals.length c3] p.v (Hus.out.below (below_link hbc p.h hbc.size)) (by have := Hwt.out; omega))
        have el1 : (l ++ [Need.mk k op vals]).length = l.length + 1 := by simp
        rw [el1] at HS3
        have HW := Lib.hid (fun p : BelowBy wc => below_link HW3.out (below_link hbc p.h hbc.size) HW3.out.size)
        have hmore : selF (l ++ [⟨k, op, vals⟩]) labs = true → selF l labs = true := fun h => by rw [sel_more] at h; exact (Bool.and_eq_true _ _ ▸ h).1
        have e00 : selF [] labs = true := rfl
        rw [e00] at HS0
        generalize yes (NeedP ⟨k, op, vals⟩) = R5 at HN1 HN2
        generalize selF (l ++ [⟨k, op, vals⟩]) labs = R3 at HS3 hmore
        generalize selF l labs = R1 at HS1 HS2 hmore
        have Hmore := Lib.hid hmore
        clear el1 e00 e0 e1 e2 hgd Hrd1 Hxs Hones1 Hones2 hk64 Hd5 Hbd h8 hbc hwl hwm hL8 hb8 hmore
        cases R3
        case false =>
          clear Hmore
          go_wp2_with fail
          refine wp_region_quiet_below (by kernel_rfl) (by kernel_rfl) ?_
          repeat (refine @wpQuiet_step _ _ _ _ _ _ _ ?_; intro K hK; go_simp; refine hK _ ?_; clear hK K)
          (refine @wpQuiet_step _ _ _ _ _ _ _ ?_; intro K hK; go_simp; apply Exists.intro; refine ⟨fun _ => ?_, hK _ ?_⟩; (go_at_call 14; exact Calls.below_of (HS1.out _)); clear hK K)
          repeat (refine @wpQuiet_step _ _ _ _ _ _ _ ?_; intro K hK; go_simp; refine hK _ ?_; clear hK K)
          (refine @wpQuiet_step _ _ _ _ _ _ _ ?_; intro K hK; go_simp; apply Exists.intro; refine ⟨fun _ => ?_, hK _ ?_⟩; (go_at_call 15; exact Calls.below_of (HS2.out _)); clear hK K)
          repeat (refine @wpQuiet_step _ _ _ _ _ _ _ ?_; intro K hK; go_simp; refine hK _ ?_; clear hK K)
          (refine @wpQuiet_step _ _ _ _ _ _ _ ?_; intro K hK; go_simp; apply Exists.intro; refine ⟨fun _ => ?_, hK _ ?_⟩; (go_at_call 14; exact Calls.below_of (HS3.out _)); clear hK K)
          repeat (refine @wpQuiet_step _ _ _ _ _ _ _ ?_; intro K hK; go_simp; refine hK _ ?_; clear hK K)
          (refine @wpQuiet_step _ _ _ _ _ _ _ ?_; intro K hK; go_simp; apply Exists.intro; refine ⟨fun _ => ?_, hK _ ?_⟩; (go_at_call 14; exact Calls.below_of (HS0.out _)); clear hK K)
          repeat (refine @wpQuiet_step _ _ _ _ _ _ _ ?_; intro K hK; go_simp; refine hK _ ?_; clear hK K)
          (refine @wpQuiet_step _ _ _ _ _ _ _ ?_; intro K hK; go_simp; apply Exists.intro; refine ⟨fun _ => ?_, hK _ ?_⟩; (go_at_call 16; exact Calls.below_of (HN1.out _)); clear hK K)
          repeat (refine @wpQuiet_step _ _ _ _ _ _ _ ?_; intro K hK; go_simp; refine hK _ ?_; clear hK K)
          (refine @wpQuiet_step _ _ _ _ _ _ _ ?_; intro K hK; go_simp; apply Exists.intro; refine ⟨fun _ => ?_, hK _ ?_⟩; (go_at_call 12; exact Calls.below_of (HN2.out _)); clear hK K)
          repeat (refine @wpQuiet_step _ _ _ _ _ _ _ ?_; intro K hK; go_simp; refine hK _ ?_; clear hK K)
          refine wpQuiet_nil ?_
          intro _ hw'
          obtain ⟨p, rfl⟩ := hw'
          go_wp2_with fail
          go_ret
          exact ⟨rfl, HW.out p⟩
        case true =>
          obtain rfl := Hmore.out rfl
          clear Hmore
          go_wp2_with fail
          refine wp_region_quiet_below (by kernel_rfl) (by kernel_rfl) ?_
          repeat (refine @wpQuiet_step _ _ _ _ _ _ _ ?_; intro K hK; go_simp; refine hK _ ?_; clear hK K)
          (refine @wpQuiet_step _ _ _ _ _ _ _ ?_; intro K hK; go_simp; apply Exists.intro; refine ⟨fun _ => ?_, hK _ ?_⟩; (go_at_call 14; exact Calls.below_of (HS1.out _)); clear hK K)
          repeat (refine @wpQuiet_step _ _ _ _ _ _ _ ?_; intro K hK; go_simp; refine hK _ ?_; clear hK K)
          (refine @wpQuiet_step _ _ _ _ _ _ _ ?_; intro K hK; go_simp; apply Exists.intro; refine ⟨fun _ => ?_, hK _ ?_⟩; (go_at_call 15; exact Calls.below_of (HS2.out _)); clear hK K)
          repeat (refine @wpQuiet_step _ _ _ _ _ _ _ ?_; intro K hK; go_simp; refine hK _ ?_; clear hK K)
          (refine @wpQuiet_step _ _ _ _ _ _ _ ?_; intro K hK; go_simp; apply Exists.intro; refine ⟨fun _ => ?_, hK _ ?_⟩; (go_at_call 14; exact Calls.below_of (HS3.out _)); clear hK K)
          repeat (refine @wpQuiet_step _ _ _ _ _ _ _ ?_; intro K hK; go_simp; refine hK _ ?_; clear hK K)
          (refine @wpQuiet_step _ _ _ _ _ _ _ ?_; intro K hK; go_simp; apply Exists.intro; refine ⟨fun _ => ?_, hK _ ?_⟩; (go_at_call 14; exact Calls.below_of (HS1.out _)); clear hK K)
          repeat (refine @wpQuiet_step _ _ _ _ _ _ _ ?_; intro K hK; go_simp; refine hK _ ?_; clear hK K)
          (refine @wpQuiet_step _ _ _ _ _ _ _ ?_; intro K hK; go_simp; apply Exists.intro; refine ⟨fun _ => ?_, hK _ ?_⟩; (go_at_call 14; exact Calls.below_of (HS0.out _)); clear hK K)
          repeat (refine @wpQuiet_step _ _ _ _ _ _ _ ?_; intro K hK; go_simp; refine hK _ ?_; clear hK K)
          (refine @wpQuiet_step _ _ _ _ _ _ _ ?_; intro K hK; go_simp; apply Exists.intro; refine ⟨fun _ => ?_, hK _ ?_⟩; (go_at_call 16; exact Calls.below_of (HN1.out _)); clear hK K)
          repeat (refine @wpQuiet_step _ _ _ _ _ _ _ ?_; intro K hK; go_simp; refine hK _ ?_; clear hK K)
          (refine @wpQuiet_step _ _ _ _ _ _ _ ?_; intro K hK; go_simp; apply Exists.intro; refine ⟨fun _ => ?_, hK _ ?_⟩; (go_at_call 12; exact Calls.below_of (HN2.out _)); clear hK K)
          repeat (refine @wpQuiet_step _ _ _ _ _ _ _ ?_; intro K hK; go_simp; refine hK _ ?_; clear hK K)
          refine wpQuiet_nil ?_
          intro _ hw'
          obtain ⟨p, rfl⟩ := hw'
          go_wp2_with fail
          go_ret
          exact ⟨rfl, HW.out p⟩
end Go.Proofs.YtjcfaepklakpkaaDoor.fnSelects
