/- spec.NeedLine. -/
import Derived.Test.YtjcfaepklakpkaaDoorNeedS
import Derived.Test.YtjcfaepklakpkaaDoorLineNM
import Derived.Deep.RegionHeld3
namespace Go.Proofs.YtjcfaepklakpkaaDoor.need
open Go.ChangeShapes Go.WideShapes Go.ChangeAt Go.RowKit ty lab
set_option linter.unusedVariables false

theorem spec_ops (w : World) : Calls Tryd.prog 55 #[] w fun e w' => e = .returned (.slice (some ⟨w.heap.size, 0, none⟩) 5 5) ∧ w' = w.alloc (.cells opsL.toArray 9) := by
  go_enter Tryd.func55, Tryd.ntmps55
  go_wp2_with fail
  go_ret
  exact ⟨rfl, rfl⟩
/-- The five words, each at its place. -/
theorem ops_at (w : World) : Calls Tryd.prog 55 #[] w fun e w' => ∃ g, e = .returned (.slice (some ⟨g, 0, none⟩) 5 5) ∧ (∀ k, 1 ≤ k → k ≤ 4 → w'.cell? ⟨g, k, none⟩ = some (.string (opS k))) ∧ Below w.heap.size w w' := by
  refine (spec_ops w).mono ?_
  rintro e w' ⟨rfl, rfl⟩
  refine ⟨_, rfl, fun k h1 h4 => ?_, (Below.refl _ _).alloc (Nat.le_refl _) _⟩
  rw [cell_of_row _ _ k _ _ _ (heap_alloc_new w _)]
  simpa using opsL_at h1 h4
set_option maxRecDepth 100000 in
set_option maxHeartbeats 16000000 in
theorem spec_lineN (x : Need) (f : Nat) (vs : List Value) (w : World) (h : LiesS w f vs x.row) (hw : x.wt ≤ 1048576) :
    Calls Tryd.prog 29 #[.agg vs.toArray] w fun e w' => e = .returned (.string (lineN x)) ∧ Below w.heap.size w w' := by
  have HN := Lib.hid (fun w1 (hb : Below w.heap.size w w1) => spec_need x f vs w1 (h.kept hb.block) hw)
  have Hlen := Lib.hid (fun (hP : NeedP x) j => lineTo_len hP hw j)
  have Hmore := Lib.hid (fun (j : Nat) (s : ByteArray) (hj : 0 < j) (h : j < x.values.length) (hs : s.data.toList = lineTo x j) => lineTo_more hj h hs)
  have Hfirst := Lib.hid (fun (s : ByteArray) (h : 0 < x.values.length) (hs : s.data.toList = lineTo x 0) => lineTo_first h hs)
  have Hall := Lib.hid (fun (s : ByteArray) (hs : s.data.toList = lineTo x x.values.length) => lineTo_all x s hs)
  have Hzero := Lib.hid (fun k hk h1 h4 => lineTo_zero x k hk h1 h4)
  have Hvz := Lib.hid (show ∀ k (h : k < x.values.length), x.values[k].size ≤ 1048576 from fun k h => Nat.le_trans (wt_val h) hw)
  have Hkz := Lib.hid (Nat.le_trans (wt_key x) hw)
  obtain ⟨L, hL⟩ : ∃ L : Nat → List UInt8, L = lineTo x := ⟨_, rfl⟩
  rw [← hL] at Hlen Hmore Hfirst Hall Hzero
  have Hop : Hid (NeedP x → 1 ≤ x.op ∧ x.op ≤ 4) := fun h => ⟨h.lo, h.hi⟩
  by_cases hP : NeedP x
  case neg =>
    obtain ⟨key, op, vals⟩ := x
    obtain ⟨A2, c2, rfl, hwf, k2, m2, l2⟩ := Need.opened h
    have HB := Lib.hid (Box.new 30 w [.string key, .int .i64 op, .slice A2 vals.length c2])
    have HN1 := Lib.hid (HN.out _ HB.out.1)
    rw [yes_f hP] at HN1
    rw [lineN_no hP]
    have p0 := HB.out.cell (j := 0) rfl
    have p1 := HB.out.cell (j := 1) rfl
    have p2 := HB.out.cell (j := 2) rfl
    clear hP h hwf k2 m2 l2 HN Hlen Hmore Hfirst Hall Hzero Hvz Hkz Hop hL
    go_enter Tryd.func29, Tryd.ntmps29
    go_wp2_with fail
    refine HN1.out.mono ?_
    rintro e x1 ⟨rfl, hb1⟩
    have B1 := Lib.hid (HB.out.below hb1)
    clear hb1
    go_wp2_with fail
    go_ret
    exact ⟨rfl, B1.out.1⟩
  obtain ⟨ho1, ho4⟩ := Hop.out hP
  have hall := fun s hs => Hall.out s hs hP
  obtain ⟨R, hR⟩ : ∃ R, lineN x = R := ⟨_, rfl⟩
  rw [hR] at hall ⊢
  have Hall2 := Lib.hid hall
  have Hlen2 := Lib.hid (Hlen.out hP)
  obtain ⟨k, hk⟩ : ∃ k : Nat, x.op = (k : Int) := ⟨x.op.toNat, by omega⟩
  have hk1 : 1 ≤ k := by omega
  have hk4 : k ≤ 4 := by omega
  have hz := Hzero.out k hk hk1 hk4
  have hzl := Hlen2.out 0
  rw [← hz] at hzl
  have Hz := Lib.hid hz
  obtain ⟨key, op, vals⟩ := x
  simp only at hk
  subst hk
  obtain ⟨A2, c2, rfl, hwf, k2, m2, l2⟩ := Need.opened h
  simp only at *
  obtain ⟨A', c', hA', _, _, hr, _⟩ := Str.opened l2
  injection hA' with a1 _ a3
  subst a1 a3
  unfold maxLen at m2
  have HB := Lib.hid (Box.new 30 w [.string key, .int .i64 (k : Int), .slice A2 vals.length c2])
  have HN1 := Lib.hid (HN.out _ HB.out.1)
  rw [yes_t hP] at HN1
  have Hr := Lib.hid hr
  have hkz := Hkz.out
  have hoz := opS_size k
  have p0 := HB.out.cell (j := 0) rfl
  have p1 := HB.out.cell (j := 1) rfl
  have p2 := HB.out.cell (j := 2) rfl
  have hk0 : (0 : Int) ≤ (k : Int) := by omega
  have hk5 : (k : Int) < 5 := by omega
  have hwk : IntKind.i64.wrap (k : Int) = (k : Int) := IntWalk.i64_in _ (by omega)
  clear hP h hwf k2 l2 HN Hlen Hall Hzero Hkz Hop hL hall hR hr hz hzl ho1 ho4
  go_enter Tryd.func29, Tryd.ntmps29
  go_wp2_with fail
  refine HN1.out.mono ?_
  rintro e x1 ⟨rfl, hb1⟩
  have B1 := Lib.hid (HB.out.below hb1)
  clear hb1 p0 p1 p2 HN1 HB
  go_wp2_with fail
  have KS := Lib.hid (show ∀ w', Below x1.heap.size x1 w' → Below x1.heap.size x1 w' ∧ w'.cell? ⟨w.heap.size, 0, none⟩ = some (.string key) ∧ w'.cell? ⟨w.heap.size, 1, none⟩ = some (.int .i64 (k : Int)) from fun w' hb => ⟨hb, (B1.out.below hb).cell (j := 0) rfl, (B1.out.below hb).cell (j := 1) rfl⟩)
  have B0 := Lib.hid ((Below.refl x1.heap.size x1).drew)
  refine wp_region_held_drew (S := (fun w' => Below x1.heap.size x1 w' ∧ w'.cell? ⟨w.heap.size, 0, none⟩ = some (.string key) ∧ w'.cell? ⟨w.heap.size, 1, none⟩ = some (.int .i64 (k : Int)))) (by kernel_rfl) ?_ (fun hHeld => ?_)
  · first | exact KS.out _ hxA | exact KS.out _ B0.out
  refine wpAnyH_take (i := 0) (v := ?_) rfl (by kernel_rfl) (by kernel_rfl) (by kernel_rfl) (fun _ _ _ h => h) (Or.inl ⟨by rfl, ?_⟩) (by assumption) ?_
  rotate_left
  · intro w' hSw
    try dsimp only at hSw
    go_simp
    try with_reducible rfl
  try simp only [Act.put, List.setIfInBounds_toArray, List.set_cons_zero, List.set_cons_succ, List.getElem_toArray, List.getElem_cons_zero, List.getElem_cons_succ]
  refine wpAnyH_take (i := 1) (v := ?_) rfl (by kernel_rfl) (by kernel_rfl) (by kernel_rfl) (fun _ _ _ h => h) (Or.inl ⟨by rfl, ?_⟩) (by assumption) ?_
  rotate_left
  · intro w' hSw
    try dsimp only at hSw
    go_simp
    try with_reducible rfl
  try simp only [Act.put, List.setIfInBounds_toArray, List.set_cons_zero, List.set_cons_succ, List.getElem_toArray, List.getElem_cons_zero, List.getElem_cons_succ]
  refine wpAnyH_take (i := 2) (v := (.string (key ++ ⟨#[32]⟩))) rfl (by kernel_rfl) (by kernel_rfl) (by kernel_rfl) (fun _ _ _ h => h) (Or.inl ⟨by rfl, ?_⟩) (by assumption) ?_
  · intro w' hSw
    try dsimp only at hSw
    go_simp
    try (first | rfl | omega)
  try simp only [Act.put, List.setIfInBounds_toArray, List.set_cons_zero, List.set_cons_succ, List.getElem_toArray, List.getElem_cons_zero, List.getElem_cons_succ]
  refine wpAnyH_take (i := 4) (v := ?_) rfl (by kernel_rfl) (by kernel_rfl) (by kernel_rfl) (fun _ _ _ h => h) (Or.inl ⟨by rfl, ?_⟩) (by assumption) ?_
  rotate_left
  · intro w' hSw
    try dsimp only at hSw
    go_simp
    try with_reducible rfl
  try simp only [Act.put, List.setIfInBounds_toArray, List.set_cons_zero, List.set_cons_succ, List.getElem_toArray, List.getElem_cons_zero, List.getElem_cons_succ]
  refine wpAnyH_take (i := 5) (v := ?_) rfl (by kernel_rfl) (by kernel_rfl) (by kernel_rfl) (fun _ _ _ h => h) (Or.inl ⟨by rfl, ?_⟩) (by assumption) ?_
  rotate_left
  · intro w' hSw
    try dsimp only at hSw
    go_simp
    try with_reducible rfl
  try simp only [Act.put, List.setIfInBounds_toArray, List.set_cons_zero, List.set_cons_succ, List.getElem_toArray, List.getElem_cons_zero, List.getElem_cons_succ]
  refine wpAnyH_ready (rs := [3]) (by kernel_rfl) (by simp) ?_
  refine AllReadyH.cons rfl (fun K hK => ?_) ?_
  · go_simp
    go_at_call 55
    refine (ops_at _).mono ?_
    rintro e wA ⟨g, rfl, hcA, hbA⟩
    have hxA := below_link hHeld.1 hbA hHeld.1.size
    have hcell := hcA k hk1 hk4
    refine hK.out _ _ ?_ (fun hHeld => ?_)
    · first | exact KS.out _ hxA | exact KS.out _ B0.out
    clear hK K
    try simp only [Act.put, List.setIfInBounds_toArray, List.set_cons_zero, List.set_cons_succ, List.getElem_toArray, List.getElem_cons_zero, List.getElem_cons_succ]
    refine wpAnyH_take (i := 6) (v := ?_) rfl (by kernel_rfl) (by kernel_rfl) (by kernel_rfl) (fun _ _ _ h => h) (Or.inl ⟨by rfl, ?_⟩) (by assumption) ?_
    rotate_left
    · intro w' hSw
      try dsimp only at hSw
      go_simp
      try with_reducible rfl
    try simp only [Act.put, List.setIfInBounds_toArray, List.set_cons_zero, List.set_cons_succ, List.getElem_toArray, List.getElem_cons_zero, List.getElem_cons_succ]
    refine wpAnyH_ready (rs := [7]) (by kernel_rfl) (by simp) ?_
    refine AllReadyH.cons rfl (fun K hK => ?_) ?_
    · go_simp
      refine hK.out _ _ ?_ (fun hHeld => ?_)
      · first | exact KS.out _ hxA | exact KS.out _ B0.out
      clear hK K
      try simp only [Act.put, List.setIfInBounds_toArray, List.set_cons_zero, List.set_cons_succ, List.getElem_toArray, List.getElem_cons_zero, List.getElem_cons_succ]
      refine wpAnyH_take (i := 8) (v := (.string ((key ++ ⟨#[32]⟩) ++ opS k))) rfl (by kernel_rfl) (by kernel_rfl) (by kernel_rfl) (fun _ _ _ h => h) (Or.inl ⟨by rfl, ?_⟩) (by assumption) ?_
      · intro w' hSw
        try dsimp only at hSw
        go_simp
        try (first | rfl | omega)
      try simp only [Act.put, List.setIfInBounds_toArray, List.set_cons_zero, List.set_cons_succ, List.getElem_toArray, List.getElem_cons_zero, List.getElem_cons_succ]
      refine wpAnyH_take (i := 9) (v := ?_) rfl (by kernel_rfl) (by kernel_rfl) (by kernel_rfl) (fun _ _ _ h => h) (Or.inl ⟨by rfl, ?_⟩) (by assumption) ?_
      rotate_left
      · intro w' hSw
        try dsimp only at hSw
        go_simp
        try with_reducible rfl
      try simp only [Act.put, List.setIfInBounds_toArray, List.set_cons_zero, List.set_cons_succ, List.getElem_toArray, List.getElem_cons_zero, List.getElem_cons_succ]
      refine wpAnyH_done (by kernel_rfl) ?_ _
      have Hb2 := Lib.hid (B1.out.below hxA)
      clear KS B0 hHeld hcA hcell hbA hxA B1
      have Hs0 := Lib.hid Hz.out
      clear Hz
      generalize (key ++ ⟨#[32]⟩) ++ opS k = s0 at Hs0 ⊢
      go_wp2_with fail
      go_loopw [3, 4] (fun sv i wr => ∃ (j : Nat) (s : ByteArray), j ≤ vals.length ∧ i = .int .i64 j ∧ sv = .string s ∧ Hid (s.data.toList = L j) ∧ Box 30 w [.string key, .int .i64 (k : Int), .slice A2 vals.length c2] wr) (fun _ i _ => vals.length - (intOf i).toNat)
      case atStart => exact ⟨0, s0, Nat.zero_le _, rfl, rfl, Hs0.out, Hb2.out⟩
      case round =>
        clear Hb2 Hs0
        obtain ⟨j, s, hj, rfl, rfl, hs, hbox⟩ := hrel
        have p2 := hbox.cell (j := 2) rfl
        have Hbox := Lib.hid hbox
        have hsz : s.size ≤ 8000000 := by rw [size_of hs.out]; exact Hlen2.out j
        by_cases hlt : j < vals.length
        · obtain ⟨g, o, rfl, hg, hc0⟩ := (Hr.out.below hbox.1).2 (by omega)
          have q0 : wr.cell? ⟨g, o + j, none⟩ = some (.string vals[j]) := hc0 j hlt _ (scells_get vals j hlt)
          have hvz := Hvz.out j hlt
          have hj0 : (0 : Int) ≤ (j : Int) := by omega
          have hjn : (j : Int) < (vals.length : Int) := by omega
          by_cases hz : j = 0
          · have Hm : Hid (((s ++ ⟨#[32]⟩) ++ vals[j]).data.toList = L (j + 1)) := by
              subst hz
              exact Hfirst.out s hlt hs.out
            have he : ((j : Int) == 0) = true := by simp [hz]
            clear hz hs hbox hg hc0 Hr Hvz Hfirst Hmore Hall2 Hlen2
            generalize vals[j] = y at q0 hvz Hm
            go_wp2_with fail
            go_roundw
            case rel => exact ⟨j + 1, _, by omega, by go_num, rfl, Hm.out, Hbox.out⟩
            case measure => simp [intOf]; omega
          · have Hm : Hid (((s ++ ⟨#[44]⟩) ++ vals[j]).data.toList = L (j + 1)) := Hmore.out j s (by omega) hlt hs.out
            have he : ((j : Int) == 0) = false := by rw [beq_eq_false_iff_ne]; omega
            clear hz hs hbox hg hc0 Hr Hvz Hfirst Hmore Hall2 Hlen2
            generalize vals[j] = y at q0 hvz Hm
            go_wp2_with fail
            go_roundw
            case rel => exact ⟨j + 1, _, by omega, by go_num, rfl, Hm.out, Hbox.out⟩
            case measure => simp [intOf]; omega
        · obtain rfl : j = vals.length := by omega
          have Hf := Lib.hid (Hall2.out s hs.out)
          clear hs hbox
          go_wp2_with fail
          go_ret
          exact ⟨by rw [Hf.out]; rfl, Hbox.out.1⟩
    exact AllReadyH.nil
  exact AllReadyH.nil
end Go.Proofs.YtjcfaepklakpkaaDoor.need
