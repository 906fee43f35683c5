/- Merged: LeafS RsS. -/
import Derived.Test.YtegpcjkcejijpaaGreatDoorGLeaf
import Derived.Test.YtegpcjkcejijpaaGreatDoorGRq
import Derived.Test.YtegpcjkcejijpaaGreatDoorGWhS
import Derived.Test.YtegpcjkcejijpaaGreatDoorGPl
namespace Go.Proofs.YtegpcjkcejijpaaGreatDoor.line
open Go.ChangeShapes Go.WideShapes Go.ChangeAt Go.RowKit tree
set_option linter.unusedVariables false

theorem spec_textV (s : ByteArray) (w : World) :
    Calls Tryz.prog 70 #[.string s] w fun e w' => e = .returned (.agg #[.int .i64 4, .bool false, .int .i64 0, .string s, .slice none 0 0, .slice none 0 0]) ∧ Below w.heap.size w w' := by
  go_enter Tryz.func70, Tryz.ntmps70
  go_wp2_with fail
  refine bodyPost_ret (v := .agg #[.int .i64 4, .bool false, .int .i64 0, .string s, .slice none 0 0, .slice none 0 0]) ?_ rfl ⟨rfl, (Below.refl _ _).alloc (Nat.le_refl _) _⟩
  exact ret_tree rfl rfl rfl (heap_alloc_new w _)
theorem spec_intV (n : Int) (w : World) :
    Calls Tryz.prog 72 #[.int .i64 n] w fun e w' => e = .returned (.agg #[.int .i64 3, .bool false, .int .i64 n, .string ⟨#[]⟩, .slice none 0 0, .slice none 0 0]) ∧ Below w.heap.size w w' := by
  go_enter Tryz.func72, Tryz.ntmps72
  go_wp2_with fail
  refine bodyPost_ret (v := .agg #[.int .i64 3, .bool false, .int .i64 n, .string ⟨#[]⟩, .slice none 0 0, .slice none 0 0]) ?_ rfl ⟨rfl, (Below.refl _ _).alloc (Nat.le_refl _) _⟩
  exact ret_tree rfl rfl rfl (heap_alloc_new w _)
end Go.Proofs.YtegpcjkcejijpaaGreatDoor.line
namespace Go.Proofs.YtegpcjkcejijpaaGreatDoor.line
open Go.ChangeShapes Go.WideShapes Go.ChangeAt Go.RowKit tree
set_option linter.unusedVariables false

theorem scalar_w0 {s : ByteArray} (h : s.data.toList = [91, 93]) : scalarF s = some (leafT 5 false 0 ⟨#[]⟩) := by unfold scalarF; rw [h]; rfl
theorem scalar_w1 {s : ByteArray} (h : s.data.toList = [123, 125]) : scalarF s = some (leafT 6 false 0 ⟨#[]⟩) := by unfold scalarF; rw [h]; rfl
theorem scalar_w2 {s : ByteArray} (h : s.data.toList = [110, 117, 108, 108]) : scalarF s = some (leafT 1 false 0 ⟨#[]⟩) := by unfold scalarF; rw [h]; rfl
theorem scalar_w3 {s : ByteArray} (h : s.data.toList = [126]) : scalarF s = some (leafT 1 false 0 ⟨#[]⟩) := by unfold scalarF; rw [h]; rfl
theorem scalar_w4 {s : ByteArray} (h : s.data.toList = [116, 114, 117, 101]) : scalarF s = some (leafT 2 true 0 ⟨#[]⟩) := by unfold scalarF; rw [h]; rfl
theorem scalar_w5 {s : ByteArray} (h : s.data.toList = [102, 97, 108, 115, 101]) : scalarF s = some (leafT 2 false 0 ⟨#[]⟩) := by unfold scalarF; rw [h]; rfl
theorem scalar_val {s : ByteArray} (c0 : ¬ s.data.toList = [91, 93]) (c1 : ¬ s.data.toList = [123, 125]) (c2 : ¬ s.data.toList = [110, 117, 108, 108]) (c3 : ¬ s.data.toList = [126]) (c4 : ¬ s.data.toList = [116, 114, 117, 101]) (c5 : ¬ s.data.toList = [102, 97, 108, 115, 101]) : scalarF s = valT s := by
  unfold scalarF wordT
  rw [if_neg c0, if_neg c1, if_neg (fun h => h.elim c2 c3), if_neg c4, if_neg c5, Option.none_or]
set_option maxRecDepth 100000 in
set_option maxHeartbeats 8000000 in
theorem spec_rs (s : ByteArray) (w : World) (hs : s.size ≤ 1048576) :
    Calls Tryz.prog 29 #[.string s] w (RsOut (scalarF s) w) := by
  have hl := Lib.toList_data s
  obtain ⟨w1, hw1⟩ : ∃ w1, w1 = w.alloc (.cells #[.int .i64 0, .bool false, .int .i64 0, .string ⟨#[]⟩, .slice none 0 0, .slice none 0 0] 34) := ⟨_, rfl⟩
  have hb1 : Below w.heap.size w w1 := by rw [hw1]; exact (Below.refl _ _).alloc (Nat.le_refl _) _
  have hrow1 : w1.heap[w.heap.size]? = some (.cells #[.int .i64 0, .bool false, .int .i64 0, .string ⟨#[]⟩, .slice none 0 0, .slice none 0 0] 34 (0, 0)) := by rw [hw1]; exact heap_alloc_new w _
  by_cases c0 : s.data.toList = [91, 93]
  · have q0 : (s.toList == [91, 93]) = true := by rw [hl, c0]; rfl
    have H := Lib.hid (scalar_w0 c0)
    clear c0 hl hw1 hb1 hrow1
    go_enter Tryz.func29, Tryz.ntmps29
    go_wp2_with fail
    refine bodyPost_ret (v := .tuple #[.agg #[.int .i64 5, .bool false, .int .i64 0, .string ⟨#[]⟩, .slice none 0 0, .slice none 0 0], .bool true]) ?_ rfl (rs_some H.out ((Below.refl _ _).alloc (Nat.le_refl _) _))
    exact ret_leaf rfl rfl rfl rfl (heap_alloc_new w _)
  have q0 : (s.toList == [91, 93]) = false := by rw [hl]; exact beq_eq_false_iff_ne.2 c0
  by_cases c1 : s.data.toList = [123, 125]
  · have q1 : (s.toList == [123, 125]) = true := by rw [hl, c1]; rfl
    have H := Lib.hid (scalar_w1 c1)
    clear c1 hl hw1 hb1 hrow1
    go_enter Tryz.func29, Tryz.ntmps29
    go_wp2_with fail
    refine bodyPost_ret (v := .tuple #[.agg #[.int .i64 6, .bool false, .int .i64 0, .string ⟨#[]⟩, .slice none 0 0, .slice none 0 0], .bool true]) ?_ rfl (rs_some H.out ((Below.refl _ _).alloc (Nat.le_refl _) _))
    exact ret_leaf rfl rfl rfl rfl (heap_alloc_new w _)
  have q1 : (s.toList == [123, 125]) = false := by rw [hl]; exact beq_eq_false_iff_ne.2 c1
  by_cases c2 : s.data.toList = [110, 117, 108, 108]
  · have q2 : (s.toList == [110, 117, 108, 108]) = true := by rw [hl, c2]; rfl
    have H := Lib.hid (scalar_w2 c2)
    clear c2 hl hw1 hb1 hrow1
    go_enter Tryz.func29, Tryz.ntmps29
    go_wp2_with fail
    refine bodyPost_ret (v := .tuple #[.agg #[.int .i64 1, .bool false, .int .i64 0, .string ⟨#[]⟩, .slice none 0 0, .slice none 0 0], .bool true]) ?_ rfl (rs_some H.out ((Below.refl _ _).alloc (Nat.le_refl _) _))
    exact ret_leaf rfl rfl rfl rfl (heap_alloc_new w _)
  have q2 : (s.toList == [110, 117, 108, 108]) = false := by rw [hl]; exact beq_eq_false_iff_ne.2 c2
  by_cases c3 : s.data.toList = [126]
  · have q3 : (s.toList == [126]) = true := by rw [hl, c3]; rfl
    have H := Lib.hid (scalar_w3 c3)
    clear c3 hl hw1 hb1 hrow1
    go_enter Tryz.func29, Tryz.ntmps29
    go_wp2_with fail
    refine bodyPost_ret (v := .tuple #[.agg #[.int .i64 1, .bool false, .int .i64 0, .string ⟨#[]⟩, .slice none 0 0, .slice none 0 0], .bool true]) ?_ rfl (rs_some H.out ((Below.refl _ _).alloc (Nat.le_refl _) _))
    exact ret_leaf rfl rfl rfl rfl (heap_alloc_new w _)
  have q3 : (s.toList == [126]) = false := by rw [hl]; exact beq_eq_false_iff_ne.2 c3
  by_cases c4 : s.data.toList = [116, 114, 117, 101]
  · have q4 : (s.toList == [116, 114, 117, 101]) = true := by rw [hl, c4]; rfl
    have H := Lib.hid (scalar_w4 c4)
    have e5 : (s.toList == [116, 114, 117, 101]) = true := by rw [hl, c4]; rfl
    clear c4 hl hw1 hb1 hrow1
    go_enter Tryz.func29, Tryz.ntmps29
    go_wp2_with fail
    refine bodyPost_ret (v := .tuple #[.agg #[.int .i64 2, .bool true, .int .i64 0, .string ⟨#[]⟩, .slice none 0 0, .slice none 0 0], .bool true]) ?_ rfl (rs_some H.out ((Below.refl _ _).alloc (Nat.le_refl _) _))
    exact ret_leaf rfl rfl rfl rfl (heap_alloc_new w _)
  have q4 : (s.toList == [116, 114, 117, 101]) = false := by rw [hl]; exact beq_eq_false_iff_ne.2 c4
  by_cases c5 : s.data.toList = [102, 97, 108, 115, 101]
  · have q5 : (s.toList == [102, 97, 108, 115, 101]) = true := by rw [hl, c5]; rfl
    have H := Lib.hid (scalar_w5 c5)
    have e5 : (s.toList == [116, 114, 117, 101]) = false := by rw [hl, c5]; rfl
    clear c5 hl hw1 hb1 hrow1
    go_enter Tryz.func29, Tryz.ntmps29
    go_wp2_with fail
    refine bodyPost_ret (v := .tuple #[.agg #[.int .i64 2, .bool false, .int .i64 0, .string ⟨#[]⟩, .slice none 0 0, .slice none 0 0], .bool true]) ?_ rfl (rs_some H.out ((Below.refl _ _).alloc (Nat.le_refl _) _))
    exact ret_leaf rfl rfl rfl rfl (heap_alloc_new w _)
  have q5 : (s.toList == [102, 97, 108, 115, 101]) = false := by rw [hl]; exact beq_eq_false_iff_ne.2 c5
  obtain ⟨R, hR⟩ : ∃ R, scalarF s = R := ⟨_, rfl⟩
  rw [hR]
  have HR : Hid (valT s = R) := by unfold Hid; rw [← scalar_val c0 c1 c2 c3 c4 c5]; exact hR
  have Hb1 := Lib.hid hb1
  have Hrow1 := Lib.hid hrow1
  have Hw1 := Lib.hid hw1
  clear c0 c1 c2 c3 c4 c5 hR hl hb1 hrow1 hw1
  by_cases hq : 0 < s.size ∧ at_ s 0 = 34
  · have HQ := Lib.hid (readq.spec_readq s 0 w1 hs (by omega) (by omega))
    have hsel : ∀ (p : Prop) [Decidable p], (((readq.readF s 0).2 = (s.size : Int) ∧ (readq.readF s 0).1.size ≤ 400) ↔ p) → (if p then some (leafT 4 false 0 (readq.readF s 0).1) else none) = R := fun p _ hp => by
      rw [← HR.out]
      unfold valT
      rw [if_pos hq]
      by_cases c : p
      · rw [if_pos c, if_pos (hp.2 c)]
      · rw [if_neg c, if_neg (fun h => c (hp.1 h))]
    generalize (readq.readF s 0).1 = x at HQ hsel
    generalize (readq.readF s 0).2 = n at HQ hsel
    obtain ⟨h0, h34⟩ := hq
    have hat := at_eq s 0 h0
    rw [h34] at hat
    clear h34 HR
    by_cases hok : n = (s.size : Int) ∧ x.size ≤ 400
    · have H : Hid (R = some (leafT 4 false 0 x)) := (hsel True (by simp [hok])).symm
      obtain ⟨rfl, hx⟩ := hok
      have HT := Lib.hid (fun w => spec_textV x w)
      clear hsel
      go_enter Tryz.func29, Tryz.ntmps29
      go_wp2_with fail
      rw [← Hw1.out]
      refine HQ.out.mono ?_
      rintro e w2 ⟨rfl, hb2⟩
      have Hb2 := Lib.hid (below_link Hb1.out hb2 Hb1.out.size)
      have Hrow2 := Lib.hid (heap_kept hb2 (heap_lt Hrow1.out) Hrow1.out)
      clear HQ hb2 Hw1 Hb1 Hrow1
      go_wp2_with fail
      refine (HT.out _).mono ?_
      rintro e w3 ⟨rfl, hb3⟩
      have Hb3 := Lib.hid (below_link Hb2.out hb3 Hb2.out.size)
      have h3 := heap_kept hb3 (heap_lt Hrow2.out) Hrow2.out
      have H3 := Lib.hid h3
      clear HT hb3 Hb2 Hrow2
      go_wp2_with (first | (refine wpList_store_row rfl 34 _ _ rfl w.heap.size #[.int .i64 4, .bool false, .int .i64 0, .string x, .slice none 0 0, .slice none 0 0] rfl rfl 34 _ h3 tree_size' rfl (by simp [Value.oneCell']) ?_) | fail)
      refine bodyPost_ret (v := .tuple #[.agg #[.int .i64 4, .bool false, .int .i64 0, .string x, .slice none 0 0, .slice none 0 0], .bool true]) ?_ rfl (rs_some H.out (setRow_below Hb3.out (Nat.le_refl _) _))
      exact ret_leaf rfl rfl rfl rfl (setRow_at H3.out)
    · have H : Hid (R = none) := (hsel False (by simp [hok])).symm
      clear hsel
      have hg : (n != (s.size : Int)) = true ∨ ((n != (s.size : Int)) = false ∧ 400 < (x.size : Int)) := by
        by_cases e : n = (s.size : Int)
        · right
          refine ⟨by rw [e]; simp, ?_⟩
          by_cases e2 : x.size ≤ 400
          · exact absurd ⟨e, e2⟩ hok
          · omega
        · left; exact bne_iff_ne.2 e
      clear hok
      rcases hg with hg | ⟨hg, hg2⟩
      all_goals (
        go_enter Tryz.func29, Tryz.ntmps29
        go_wp2_with fail
        rw [← Hw1.out]
        refine HQ.out.mono ?_
        rintro e w2 ⟨rfl, hb2⟩
        have Hb2 := Lib.hid (below_link Hb1.out hb2 Hb1.out.size)
        have h2 := heap_kept hb2 (heap_lt Hrow1.out) Hrow1.out
        have H2 := Lib.hid h2
        clear HQ hb2 Hw1 Hb1 Hrow1
        go_wp2_with (first | (refine wpList_store_row rfl 34 _ _ rfl w.heap.size #[.int .i64 0, .bool false, .int .i64 0, .string ⟨#[]⟩, .slice none 0 0, .slice none 0 0] rfl rfl 34 _ h2 tree_size' rfl (by simp [Value.oneCell']) ?_) | fail)
        refine bodyPost_ret (v := .tuple #[.agg #[.int .i64 0, .bool false, .int .i64 0, .string ⟨#[]⟩, .slice none 0 0, .slice none 0 0], .bool false]) ?_ rfl (rs_none H.out (setRow_below Hb2.out (Nat.le_refl _) _))
        exact ret_leaf rfl rfl rfl rfl (setRow_at H2.out))
  · have HW := Lib.hid (whole.spec_whole s 0 w1 hs (by omega) (by omega))
    have hV : (if (whole.wholeF s 0).2 = (s.size : Int) ∧ 0 < (whole.wholeF s 0).2 then some (leafT 3 false (whole.wholeF s 0).1 ⟨#[]⟩) else if plainF s = true then some (leafT 4 false 0 s) else none) = R := by
      rw [← HR.out]; unfold valT; rw [if_neg hq]
    generalize (whole.wholeF s 0).1 = x at HW hV
    generalize (whole.wholeF s 0).2 = n at HW hV
    have hg : s.size = 0 ∨ (0 < s.size ∧ (at_ s 0 == 34) = false) := by
      by_cases h0 : 0 < s.size
      · exact .inr ⟨h0, beq_eq_false_iff_ne.2 fun e => hq ⟨h0, e⟩⟩
      · exact .inl (by omega)
    have hat : 0 < s.size → Hid (∀ h : 0 < s.size, ((s[0]'h).toNat : Int) = at_ s 0) := fun h0 h => at_eq s 0 h
    clear HR hq
    by_cases hok : n = (s.size : Int) ∧ 0 < n
    · rw [if_pos hok] at hV
      have H := Lib.hid hV.symm
      obtain ⟨rfl, hn⟩ := hok
      have HT := Lib.hid (fun w => spec_intV x w)
      have h0 : 0 < s.size := by omega
      have h34 : (at_ s 0 == 34) = false := by
        rcases hg with h | h
        · omega
        · exact h.2
      have hat2 := (hat h0).out h0
      clear hV hg hat
      go_enter Tryz.func29, Tryz.ntmps29
      go_wp2_with fail
      rw [← Hw1.out]
      refine HW.out.mono ?_
      rintro e w2 ⟨rfl, hb2⟩
      have Hb2 := Lib.hid (below_link Hb1.out hb2 Hb1.out.size)
      have Hrow2 := Lib.hid (heap_kept hb2 (heap_lt Hrow1.out) Hrow1.out)
      clear HW hb2 Hw1 Hb1 Hrow1
      go_wp2_with fail
      refine (HT.out _).mono ?_
      rintro e w3 ⟨rfl, hb3⟩
      have Hb3 := Lib.hid (below_link Hb2.out hb3 Hb2.out.size)
      have h3 := heap_kept hb3 (heap_lt Hrow2.out) Hrow2.out
      have H3 := Lib.hid h3
      clear HT hb3 Hb2 Hrow2
      go_wp2_with (first | (refine wpList_store_row rfl 34 _ _ rfl w.heap.size #[.int .i64 3, .bool false, .int .i64 x, .string ⟨#[]⟩, .slice none 0 0, .slice none 0 0] rfl rfl 34 _ h3 tree_size' rfl (by simp [Value.oneCell']) ?_) | fail)
      refine bodyPost_ret (v := .tuple #[.agg #[.int .i64 3, .bool false, .int .i64 x, .string ⟨#[]⟩, .slice none 0 0, .slice none 0 0], .bool true]) ?_ rfl (rs_some H.out (setRow_below Hb3.out (Nat.le_refl _) _))
      exact ret_leaf rfl rfl rfl rfl (setRow_at H3.out)
    · rw [if_neg hok] at hV
      have HP := Lib.hid (fun w => spec_plain s w hs)
      have hg2 : (s.size = 0 ∧ ¬ n = 0) ∨ (s.size = 0 ∧ n = (s.size : Int)) ∨ (0 < s.size ∧ (at_ s 0 == 34) = false ∧ (n == (s.size : Int)) = false) := by
        rcases hg with h | ⟨h, h2⟩
        · by_cases e : n = (s.size : Int)
          · exact .inr (.inl ⟨h, e⟩)
          · exact .inl ⟨h, by omega⟩
        · exact .inr (.inr ⟨h, h2, beq_eq_false_iff_ne.2 fun e => hok ⟨e, by omega⟩⟩)
      clear hok hg
      cases hp : plainF s with
      | true =>
        rw [hp, if_pos rfl] at hV
        rw [hp] at HP
        have H := Lib.hid hV.symm
        have HT := Lib.hid (fun w => spec_textV s w)
        clear hV hp
        rcases hg2 with ⟨h0, hg2⟩ | ⟨h0, rfl⟩ | ⟨h0, h34, hg2⟩
        all_goals (
          first | have hat2 := (hat h0).out h0 | skip
          clear hat
          go_enter Tryz.func29, Tryz.ntmps29
          go_wp2_with fail
          rw [← Hw1.out]
          refine HW.out.mono ?_
          rintro e w2 ⟨rfl, hb2⟩
          have Hb2 := Lib.hid (below_link Hb1.out hb2 Hb1.out.size)
          have Hrow2 := Lib.hid (heap_kept hb2 (heap_lt Hrow1.out) Hrow1.out)
          clear HW hb2 Hw1 Hb1 Hrow1
          go_wp2_with fail
          refine (HP.out _).mono ?_
          rintro e w3 ⟨rfl, hb3⟩
          have Hb3 := Lib.hid (below_link Hb2.out hb3 Hb2.out.size)
          have Hrow3 := Lib.hid (heap_kept hb3 (heap_lt Hrow2.out) Hrow2.out)
          clear HP hb3 Hb2 Hrow2
          go_wp2_with fail
          refine (HT.out _).mono ?_
          rintro e w4 ⟨rfl, hb4⟩
          have Hb4 := Lib.hid (below_link Hb3.out hb4 Hb3.out.size)
          have h4 := heap_kept hb4 (heap_lt Hrow3.out) Hrow3.out
          have H4 := Lib.hid h4
          clear HT hb4 Hb3 Hrow3
          go_wp2_with (first | (refine wpList_store_row rfl 34 _ _ rfl w.heap.size #[.int .i64 4, .bool false, .int .i64 0, .string s, .slice none 0 0, .slice none 0 0] rfl rfl 34 _ h4 tree_size' rfl (by simp [Value.oneCell']) ?_) | fail)
          refine bodyPost_ret (v := .tuple #[.agg #[.int .i64 4, .bool false, .int .i64 0, .string s, .slice none 0 0, .slice none 0 0], .bool true]) ?_ rfl (rs_some H.out (setRow_below Hb4.out (Nat.le_refl _) _))
          exact ret_leaf rfl rfl rfl rfl (setRow_at H4.out))
      | false =>
        rw [hp, if_neg (by decide)] at hV
        rw [hp] at HP
        have H := Lib.hid hV.symm
        clear hV hp
        rcases hg2 with ⟨h0, hg2⟩ | ⟨h0, rfl⟩ | ⟨h0, h34, hg2⟩
        all_goals (
          first | have hat2 := (hat h0).out h0 | skip
          clear hat
          go_enter Tryz.func29, Tryz.ntmps29
          go_wp2_with fail
          rw [← Hw1.out]
          refine HW.out.mono ?_
          rintro e w2 ⟨rfl, hb2⟩
          have Hb2 := Lib.hid (below_link Hb1.out hb2 Hb1.out.size)
          have Hrow2 := Lib.hid (heap_kept hb2 (heap_lt Hrow1.out) Hrow1.out)
          clear HW hb2 Hw1 Hb1 Hrow1
          go_wp2_with fail
          refine (HP.out _).mono ?_
          rintro e w3 ⟨rfl, hb3⟩
          have Hb3 := Lib.hid (below_link Hb2.out hb3 Hb2.out.size)
          have h3 := heap_kept hb3 (heap_lt Hrow2.out) Hrow2.out
          have H3 := Lib.hid h3
          clear HP hb3 Hb2 Hrow2
          go_wp2_with (first | (refine wpList_store_row rfl 34 _ _ rfl w.heap.size #[.int .i64 0, .bool false, .int .i64 0, .string ⟨#[]⟩, .slice none 0 0, .slice none 0 0] rfl rfl 34 _ h3 tree_size' rfl (by simp [Value.oneCell']) ?_) | fail)
          refine bodyPost_ret (v := .tuple #[.agg #[.int .i64 0, .bool false, .int .i64 0, .string ⟨#[]⟩, .slice none 0 0, .slice none 0 0], .bool false]) ?_ rfl (rs_none H.out (setRow_below Hb3.out (Nat.le_refl _) _))
          exact ret_leaf rfl rfl rfl rfl (setRow_at H3.out))
end Go.Proofs.YtegpcjkcejijpaaGreatDoor.line
