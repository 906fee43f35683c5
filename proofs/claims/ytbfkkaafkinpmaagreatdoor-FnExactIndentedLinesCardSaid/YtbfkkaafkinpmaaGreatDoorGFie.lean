/- Merged: TrFieK TrFieL. -/
import Derived.Test.YtbfkkaafkinpmaaGreatDoorGFia
namespace Go.Proofs.YtbfkkaafkinpmaaGreatDoor.tree
open Go.ChangeShapes Go.WideShapes Go.ChangeAt Go.RowKit
open rune (Tabs)
set_option linter.unusedVariables false

set_option maxRecDepth 100000 in
set_option maxHeartbeats 8000000 in
theorem fields_4 {f : Nat} (fl : Bool) (n : Int) (s : ByteArray) (ks : List ByteArray) (kids : List T) (A1 A2 : Option Addr) (c1 c2 : Nat) (w : World) (h : LiesS w f [.int .i64 4, .bool fl, .int .i64 n, .string s, .slice A1 ks.length c1, .slice A2 kids.length c2] (row (T.mk 4 fl n s ks kids))) (hT : Tabs w) :
    Calls Tryz.prog 36 #[.agg #[.int .i64 4, .bool fl, .int .i64 n, .string s, .slice A1 ks.length c1, .slice A2 kids.length c2]] w fun e w' => e = .returned (.bool (dec (Node (T.mk 4 fl n s ks kids)))) ∧ Below w.heap.size w w' := by
  obtain ⟨B1, d1, B2, d2, e0, wk, wn, hs, hc1, hc2, hr, hks, _, _, f', hf, hk⟩ := open_tree h
  injection e0 with e0 e0'
  injection e0' with e1 e1'
  injection e1' with e2 e2'
  injection e2' with e3 e3'
  injection e3' with e4 e4'
  injection e4' with e5 e5'
  injection e4 with e6 _ e7
  injection e5 with e8 _ e9
  subst e6 e7 e8 e9
  obtain ⟨w1, hw1⟩ : ∃ w1, w1 = w.alloc (.cells #[.int .i64 4, .bool fl, .int .i64 n, .string s, .slice A1 ks.length c1, .slice A2 kids.length c2] 30) := ⟨_, rfl⟩
  have hb1 : Below w.heap.size w w1 := by rw [hw1]; exact (Below.refl _ _).alloc (Nat.le_refl _) _
  have hp : Row6 w1 w.heap.size (.int .i64 4) (.bool fl) (.int .i64 n) (.string s) (.slice A1 ks.length c1) (.slice A2 kids.length c2) := by rw [hw1]; exact Row6.of (heap_alloc_new w _)
  have HN := Lib.hid (nodeOf_4 fl n s A1 A2 ks.length c1 kids.length c2 w1)
  have HTR := Lib.hid (fun w' => tree_textNode s w')
  have HSF := Lib.hid (fun w' (hb : Below w.heap.size w w') => impl_fields (T.mk 4 false 0 s [] []) (T.mk 4 fl n s ks kids) [.int .i64 4, .bool false, .int .i64 0, .string s, .slice none 0 0, .slice none 0 0] _ w' (lies_part (h.below hb) (wf_small (by decide) (by decide)) (wf_small (by decide) (by decide)) hs (.inl ⟨rfl, rfl⟩) (.inl ⟨rfl, rfl⟩)) (h.below hb))
  have HNK := Lib.hid (fun w' (hb : Below w.heap.size w w') => nodeOk_4 s w' hs (hT.below hb))
  rw [node_4]
  have Hw1 := Lib.hid hw1
  have Hb1 := Lib.hid hb1
  have Hp := Lib.hid hp
  clear h hT hr hks hk hf hw1 hb1 hp hs hc1 hc2 wk wn e5' e0 e1 e2 e3
  generalize sameF (T.mk 4 false 0 s [] []) (T.mk 4 fl n s ks kids) = b at HSF ⊢
  generalize (dec (TextOk s)) = R at HNK ⊢
  obtain ⟨p0, p1, p2, p3, p4, p5⟩ := Hp.out
  rw [Hw1.out] at p0 p1 p2 p3 p4 p5
  go_enter Tryz.func36, Tryz.ntmps36
  go_wp2_with fail
  rw [← Hw1.out]
  refine HN.out.mono ?_
  rintro e w2 ⟨rfl, hb2⟩
  have Hb2 := Lib.hid (Hb1.out.trans (hb2.mono Hb1.out.size))
  obtain ⟨q0, q1, q2, q3, q4, q5⟩ := Hp.out.below hb2
  have Hp2 := Lib.hid (Hp.out.below hb2)
  clear hb2 p0 p1 p2 p3 p4 p5 HN
  have B0 : Below w.heap.size w w2.drew := Hb2.out.trans ((Below.refl _ _).drew.mono Hb2.out.size)
  have C0 : Below w2.heap.size w2 w2.drew := (Below.refl _ _).drew
  have hinv := inv_4
  cases b with
  | false =>
    have KS := Lib.hid (show ∀ w', Below w2.heap.size w2 w' → (Below w2.heap.size w2 w' ∧ w'.cell? ⟨w.heap.size, 0, none⟩ = some (.int .i64 4) ∧ w'.cell? ⟨w.heap.size, 1, none⟩ = some (.bool fl) ∧ w'.cell? ⟨w.heap.size, 2, none⟩ = some (.int .i64 n) ∧ w'.cell? ⟨w.heap.size, 3, none⟩ = some (.string s) ∧ w'.cell? ⟨w.heap.size, 4, none⟩ = some (.slice A1 ks.length c1) ∧ w'.cell? ⟨w.heap.size, 5, none⟩ = some (.slice A2 kids.length c2)) from fun w' hb => by
      obtain ⟨q0, q1, q2, q3, q4, q5⟩ := Hp2.out.below hb
      exact ⟨hb, q0, q1, q2, q3, q4, q5⟩)
    go_wp2_with fail
    refine wp_region_held_drew (S := (fun w' => (Below w2.heap.size w2 w' ∧ w'.cell? ⟨w.heap.size, 0, none⟩ = some (.int .i64 4) ∧ w'.cell? ⟨w.heap.size, 1, none⟩ = some (.bool fl) ∧ w'.cell? ⟨w.heap.size, 2, none⟩ = some (.int .i64 n) ∧ w'.cell? ⟨w.heap.size, 3, none⟩ = some (.string s) ∧ w'.cell? ⟨w.heap.size, 4, none⟩ = some (.slice A1 ks.length c1) ∧ w'.cell? ⟨w.heap.size, 5, none⟩ = some (.slice A2 kids.length c2)))) (by kernel_rfl) ?_ (fun hHeld => ?_)
    · first | exact KS.out _ (Below.refl _ _).drew | exact KS.out _ hx4 | exact KS.out _ hx3
    refine wpAnyH_take (i := 0) (v := ?_) rfl (by kernel_rfl) (by kernel_rfl) (by kernel_rfl) (fun _ _ _ h => h) (Or.inl ⟨by rfl, ?_⟩) (by assumption) ?_
    rotate_left
    · intro w' hSw
      try dsimp only at hSw
      go_simp
      try with_reducible rfl
    try simp only [Act.put, List.setIfInBounds_toArray, List.set_cons_zero, List.set_cons_succ, List.getElem_toArray, List.getElem_cons_zero, List.getElem_cons_succ]
    refine wpAnyH_take (i := 1) (v := ?_) rfl (by kernel_rfl) (by kernel_rfl) (by kernel_rfl) (fun _ _ _ h => h) (Or.inl ⟨by rfl, ?_⟩) (by assumption) ?_
    rotate_left
    · intro w' hSw
      try dsimp only at hSw
      go_simp
      try with_reducible rfl
    try simp only [Act.put, List.setIfInBounds_toArray, List.set_cons_zero, List.set_cons_succ, List.getElem_toArray, List.getElem_cons_zero, List.getElem_cons_succ]
    refine wpAnyH_take (i := 2) (v := ?_) rfl (by kernel_rfl) (by kernel_rfl) (by kernel_rfl) (fun _ _ _ h => h) (Or.inl ⟨by rfl, ?_⟩) (by assumption) ?_
    rotate_left
    · intro w' hSw
      try dsimp only at hSw
      go_simp
      try with_reducible rfl
    try simp only [Act.put, List.setIfInBounds_toArray, List.set_cons_zero, List.set_cons_succ, List.getElem_toArray, List.getElem_cons_zero, List.getElem_cons_succ]
    refine wpAnyH_take (i := 4) (v := ?_) rfl (by kernel_rfl) (by kernel_rfl) (by kernel_rfl) (fun _ _ _ h => h) (Or.inl ⟨by rfl, ?_⟩) (by assumption) ?_
    rotate_left
    · intro w' hSw
      try dsimp only at hSw
      go_simp
      try with_reducible rfl
    try simp only [Act.put, List.setIfInBounds_toArray, List.set_cons_zero, List.set_cons_succ, List.getElem_toArray, List.getElem_cons_zero, List.getElem_cons_succ]
    refine wpAnyH_ready (rs := [3]) (by kernel_rfl) (by simp) ?_
    refine AllReadyH.cons rfl (fun K hK => ?_) ?_
    · go_simp
      go_at_call 147
      refine (HTR.out _).mono ?_
      rintro e w3 ⟨rfl, hb3⟩
      have hx3 := below_link hHeld.1 hb3 hHeld.1.size
      go_wp2_with fail
      refine hK.out _ _ ?_ (fun hHeld => ?_)
      · first | exact KS.out _ (Below.refl _ _).drew | exact KS.out _ hx4 | exact KS.out _ hx3
      clear hK K
      try simp only [Act.put, List.setIfInBounds_toArray, List.set_cons_zero, List.set_cons_succ, List.getElem_toArray, List.getElem_cons_zero, List.getElem_cons_succ]
      refine wpAnyH_ready (rs := [5]) (by kernel_rfl) (by simp) ?_
      refine AllReadyH.cons rfl (fun K hK => ?_) ?_
      · go_simp
        go_at_call 48
        refine (HSF.out _ (Hb2.out.trans (hHeld.1.mono Hb2.out.size))).mono ?_
        rintro e w4 ⟨rfl, hb4⟩
        have hx4 := below_link hHeld.1 hb4 hHeld.1.size
        go_wp2_with fail
        refine hK.out _ _ ?_ (fun hHeld => ?_)
        · first | exact KS.out _ (Below.refl _ _).drew | exact KS.out _ hx4 | exact KS.out _ hx3
        clear hK K
        try simp only [Act.put, List.setIfInBounds_toArray, List.set_cons_zero, List.set_cons_succ, List.getElem_toArray, List.getElem_cons_zero, List.getElem_cons_succ]
        refine wpAnyH_take (i := 6) (v := ?_) rfl (by kernel_rfl) (by kernel_rfl) (by kernel_rfl) (fun _ _ _ h => h) (Or.inl ⟨by rfl, ?_⟩) (by assumption) ?_
        rotate_left
        · intro w' hSw
          try dsimp only at hSw
          go_simp
          try with_reducible rfl
        try simp only [Act.put, List.setIfInBounds_toArray, List.set_cons_zero, List.set_cons_succ, List.getElem_toArray, List.getElem_cons_zero, List.getElem_cons_succ]
        refine wpAnyH_take (i := 7) (v := ?_) rfl (by kernel_rfl) (by kernel_rfl) (by kernel_rfl) (fun _ _ _ h => h) (Or.inl ⟨by rfl, ?_⟩) (by assumption) ?_
        rotate_left
        · intro w' hSw
          try dsimp only at hSw
          go_simp
          try with_reducible rfl
        try simp only [Act.put, List.setIfInBounds_toArray, List.set_cons_zero, List.set_cons_succ, List.getElem_toArray, List.getElem_cons_zero, List.getElem_cons_succ]
        refine wpAnyH_take (i := 8) (v := undef) rfl (by kernel_rfl) (by kernel_rfl) (by kernel_rfl) (fun _ _ _ h => h) (Or.inr ⟨by rfl, rfl⟩) (by assumption) ?_
        try simp only [Act.put, List.setIfInBounds_toArray, List.set_cons_zero, List.set_cons_succ, List.getElem_toArray, List.getElem_cons_zero, List.getElem_cons_succ]
        refine wpAnyH_take (i := 9) (v := undef) rfl (by kernel_rfl) (by kernel_rfl) (by kernel_rfl) (fun _ _ _ h => h) (Or.inr ⟨by rfl, rfl⟩) (by assumption) ?_
        try simp only [Act.put, List.setIfInBounds_toArray, List.set_cons_zero, List.set_cons_succ, List.getElem_toArray, List.getElem_cons_zero, List.getElem_cons_succ]
        refine wpAnyH_take (i := 10) (v := ?_) rfl (by kernel_rfl) (by kernel_rfl) (by kernel_rfl) (fun _ _ _ h => h) (Or.inl ⟨by rfl, ?_⟩) (by assumption) ?_
        rotate_left
        · intro w' hSw
          try dsimp only at hSw
          go_simp
          try with_reducible rfl
        try simp only [Act.put, List.setIfInBounds_toArray, List.set_cons_zero, List.set_cons_succ, List.getElem_toArray, List.getElem_cons_zero, List.getElem_cons_succ]
        refine wpAnyH_take (i := 11) (v := ?_) rfl (by kernel_rfl) (by kernel_rfl) (by kernel_rfl) (fun _ _ _ h => h) (Or.inl ⟨by rfl, ?_⟩) (by assumption) ?_
        rotate_left
        · intro w' hSw
          try dsimp only at hSw
          go_simp
          try with_reducible rfl
        try simp only [Act.put, List.setIfInBounds_toArray, List.set_cons_zero, List.set_cons_succ, List.getElem_toArray, List.getElem_cons_zero, List.getElem_cons_succ]
        refine wpAnyH_done (by kernel_rfl) ?_ _
        go_wp2_with fail
        go_ret
        exact ⟨by rfl, Hb2.out.trans (hHeld.1.mono Hb2.out.size)⟩
      exact AllReadyH.nil
    exact AllReadyH.nil
  | true =>
    go_wp2_with fail
    go_region_law (go_simp; first | (go_at_call 147; refine (HTR.out _).mono ?_; rintro e w3 ⟨rfl, hb3⟩; obtain ⟨q0, q1, q2, q3, q4, q5⟩ := Hp2.out.below (C0.trans (hb3.mono (Nat.le_refl _))); have B3 := B0.trans (hb3.mono B0.size)) | (go_at_call 48; refine (HSF.out _ B3).mono ?_; rintro e w4 ⟨rfl, hb4⟩; have B4 := B3.trans (hb4.mono B3.size)) | (go_at_call 49; refine (HNK.out _ B4).mono ?_; rintro e w5 ⟨rfl, hb5⟩; have B5 := B4.trans (hb5.mono B4.size)))
    all_goals
      go_wp2_with fail
      go_ret
      exact ⟨by rfl, B5⟩

set_option maxRecDepth 100000 in
set_option maxHeartbeats 8000000 in
theorem fields_5 {f : Nat} (fl : Bool) (n : Int) (s : ByteArray) (ks : List ByteArray) (kids : List T) (A1 A2 : Option Addr) (c1 c2 : Nat) (w : World) (h : LiesS w f [.int .i64 5, .bool fl, .int .i64 n, .string s, .slice A1 ks.length c1, .slice A2 kids.length c2] (row (T.mk 5 fl n s ks kids))) (hT : Tabs w) :
    Calls Tryz.prog 36 #[.agg #[.int .i64 5, .bool fl, .int .i64 n, .string s, .slice A1 ks.length c1, .slice A2 kids.length c2]] w fun e w' => e = .returned (.bool (dec (Node (T.mk 5 fl n s ks kids)))) ∧ Below w.heap.size w w' := by
  obtain ⟨B1, d1, B2, d2, e0, wk, wn, hs, hc1, hc2, hr, hks, _, _, f', hf, hk⟩ := open_tree h
  injection e0 with e0 e0'
  injection e0' with e1 e1'
  injection e1' with e2 e2'
  injection e2' with e3 e3'
  injection e3' with e4 e4'
  injection e4' with e5 e5'
  injection e4 with e6 _ e7
  injection e5 with e8 _ e9
  subst e6 e7 e8 e9
  obtain ⟨w1, hw1⟩ : ∃ w1, w1 = w.alloc (.cells #[.int .i64 5, .bool fl, .int .i64 n, .string s, .slice A1 ks.length c1, .slice A2 kids.length c2] 30) := ⟨_, rfl⟩
  have hb1 : Below w.heap.size w w1 := by rw [hw1]; exact (Below.refl _ _).alloc (Nat.le_refl _) _
  have hp : Row6 w1 w.heap.size (.int .i64 5) (.bool fl) (.int .i64 n) (.string s) (.slice A1 ks.length c1) (.slice A2 kids.length c2) := by rw [hw1]; exact Row6.of (heap_alloc_new w _)
  have HN := Lib.hid (nodeOf_5 fl n s A1 A2 ks.length c1 kids.length c2 w1)
  have HTR := Lib.hid (fun w' => tree_listNode A2 kids.length c2 w')
  have HSF := Lib.hid (fun w' (hb : Below w.heap.size w w') => impl_fields (T.mk 5 false 0 ⟨#[]⟩ [] kids) (T.mk 5 fl n s ks kids) [.int .i64 5, .bool false, .int .i64 0, .string ⟨#[]⟩, .slice none 0 0, .slice A2 kids.length c2] _ w' (lies_part (h.below hb) (wf_small (by decide) (by decide)) (wf_small (by decide) (by decide)) (by decide) (.inl ⟨rfl, rfl⟩) (.inr ⟨rfl, rfl⟩)) (h.below hb))
  have HNK := Lib.hid (fun w' (hb : Below w.heap.size w w') => nodeOk_5 A2 kids.length c2 w' )
  rw [node_5]
  have Hw1 := Lib.hid hw1
  have Hb1 := Lib.hid hb1
  have Hp := Lib.hid hp
  clear h hT hr hks hk hf hw1 hb1 hp hs hc1 hc2 wk wn e5' e0 e1 e2 e3
  generalize sameF (T.mk 5 false 0 ⟨#[]⟩ [] kids) (T.mk 5 fl n s ks kids) = b at HSF ⊢
  obtain ⟨p0, p1, p2, p3, p4, p5⟩ := Hp.out
  rw [Hw1.out] at p0 p1 p2 p3 p4 p5
  go_enter Tryz.func36, Tryz.ntmps36
  go_wp2_with fail
  rw [← Hw1.out]
  refine HN.out.mono ?_
  rintro e w2 ⟨rfl, hb2⟩
  have Hb2 := Lib.hid (Hb1.out.trans (hb2.mono Hb1.out.size))
  obtain ⟨q0, q1, q2, q3, q4, q5⟩ := Hp.out.below hb2
  have Hp2 := Lib.hid (Hp.out.below hb2)
  clear hb2 p0 p1 p2 p3 p4 p5 HN
  have B0 : Below w.heap.size w w2.drew := Hb2.out.trans ((Below.refl _ _).drew.mono Hb2.out.size)
  have C0 : Below w2.heap.size w2 w2.drew := (Below.refl _ _).drew
  have hinv := inv_5
  cases b with
  | false =>
    have KS := Lib.hid (show ∀ w', Below w2.heap.size w2 w' → (Below w2.heap.size w2 w' ∧ w'.cell? ⟨w.heap.size, 0, none⟩ = some (.int .i64 5) ∧ w'.cell? ⟨w.heap.size, 1, none⟩ = some (.bool fl) ∧ w'.cell? ⟨w.heap.size, 2, none⟩ = some (.int .i64 n) ∧ w'.cell? ⟨w.heap.size, 3, none⟩ = some (.string s) ∧ w'.cell? ⟨w.heap.size, 4, none⟩ = some (.slice A1 ks.length c1) ∧ w'.cell? ⟨w.heap.size, 5, none⟩ = some (.slice A2 kids.length c2)) from fun w' hb => by
      obtain ⟨q0, q1, q2, q3, q4, q5⟩ := Hp2.out.below hb
      exact ⟨hb, q0, q1, q2, q3, q4, q5⟩)
    go_wp2_with fail
    refine wp_region_held_drew (S := (fun w' => (Below w2.heap.size w2 w' ∧ w'.cell? ⟨w.heap.size, 0, none⟩ = some (.int .i64 5) ∧ w'.cell? ⟨w.heap.size, 1, none⟩ = some (.bool fl) ∧ w'.cell? ⟨w.heap.size, 2, none⟩ = some (.int .i64 n) ∧ w'.cell? ⟨w.heap.size, 3, none⟩ = some (.string s) ∧ w'.cell? ⟨w.heap.size, 4, none⟩ = some (.slice A1 ks.length c1) ∧ w'.cell? ⟨w.heap.size, 5, none⟩ = some (.slice A2 kids.length c2)))) (by kernel_rfl) ?_ (fun hHeld => ?_)
    · first | exact KS.out _ (Below.refl _ _).drew | exact KS.out _ hx4 | exact KS.out _ hx3
    refine wpAnyH_take (i := 0) (v := ?_) rfl (by kernel_rfl) (by kernel_rfl) (by kernel_rfl) (fun _ _ _ h => h) (Or.inl ⟨by rfl, ?_⟩) (by assumption) ?_
    rotate_left
    · intro w' hSw
      try dsimp only at hSw
      go_simp
      try with_reducible rfl
    try simp only [Act.put, List.setIfInBounds_toArray, List.set_cons_zero, List.set_cons_succ, List.getElem_toArray, List.getElem_cons_zero, List.getElem_cons_succ]
    refine wpAnyH_take (i := 1) (v := ?_) rfl (by kernel_rfl) (by kernel_rfl) (by kernel_rfl) (fun _ _ _ h => h) (Or.inl ⟨by rfl, ?_⟩) (by assumption) ?_
    rotate_left
    · intro w' hSw
      try dsimp only at hSw
      go_simp
      try with_reducible rfl
    try simp only [Act.put, List.setIfInBounds_toArray, List.set_cons_zero, List.set_cons_succ, List.getElem_toArray, List.getElem_cons_zero, List.getElem_cons_succ]
    refine wpAnyH_take (i := 2) (v := ?_) rfl (by kernel_rfl) (by kernel_rfl) (by kernel_rfl) (fun _ _ _ h => h) (Or.inl ⟨by rfl, ?_⟩) (by assumption) ?_
    rotate_left
    · intro w' hSw
      try dsimp only at hSw
      go_simp
      try with_reducible rfl
    try simp only [Act.put, List.setIfInBounds_toArray, List.set_cons_zero, List.set_cons_succ, List.getElem_toArray, List.getElem_cons_zero, List.getElem_cons_succ]
    refine wpAnyH_take (i := 4) (v := ?_) rfl (by kernel_rfl) (by kernel_rfl) (by kernel_rfl) (fun _ _ _ h => h) (Or.inl ⟨by rfl, ?_⟩) (by assumption) ?_
    rotate_left
    · intro w' hSw
      try dsimp only at hSw
      go_simp
      try with_reducible rfl
    try simp only [Act.put, List.setIfInBounds_toArray, List.set_cons_zero, List.set_cons_succ, List.getElem_toArray, List.getElem_cons_zero, List.getElem_cons_succ]
    refine wpAnyH_ready (rs := [3]) (by kernel_rfl) (by simp) ?_
    refine AllReadyH.cons rfl (fun K hK => ?_) ?_
    · go_simp
      go_at_call 148
      refine (HTR.out _).mono ?_
      rintro e w3 ⟨rfl, hb3⟩
      have hx3 := below_link hHeld.1 hb3 hHeld.1.size
      go_wp2_with fail
      refine hK.out _ _ ?_ (fun hHeld => ?_)
      · first | exact KS.out _ (Below.refl _ _).drew | exact KS.out _ hx4 | exact KS.out _ hx3
      clear hK K
      try simp only [Act.put, List.setIfInBounds_toArray, List.set_cons_zero, List.set_cons_succ, List.getElem_toArray, List.getElem_cons_zero, List.getElem_cons_succ]
      refine wpAnyH_ready (rs := [5]) (by kernel_rfl) (by simp) ?_
      refine AllReadyH.cons rfl (fun K hK => ?_) ?_
      · go_simp
        go_at_call 48
        refine (HSF.out _ (Hb2.out.trans (hHeld.1.mono Hb2.out.size))).mono ?_
        rintro e w4 ⟨rfl, hb4⟩
        have hx4 := below_link hHeld.1 hb4 hHeld.1.size
        go_wp2_with fail
        refine hK.out _ _ ?_ (fun hHeld => ?_)
        · first | exact KS.out _ (Below.refl _ _).drew | exact KS.out _ hx4 | exact KS.out _ hx3
        clear hK K
        try simp only [Act.put, List.setIfInBounds_toArray, List.set_cons_zero, List.set_cons_succ, List.getElem_toArray, List.getElem_cons_zero, List.getElem_cons_succ]
        refine wpAnyH_take (i := 6) (v := ?_) rfl (by kernel_rfl) (by kernel_rfl) (by kernel_rfl) (fun _ _ _ h => h) (Or.inl ⟨by rfl, ?_⟩) (by assumption) ?_
        rotate_left
        · intro w' hSw
          try dsimp only at hSw
          go_simp
          try with_reducible rfl
        try simp only [Act.put, List.setIfInBounds_toArray, List.set_cons_zero, List.set_cons_succ, List.getElem_toArray, List.getElem_cons_zero, List.getElem_cons_succ]
        refine wpAnyH_take (i := 7) (v := ?_) rfl (by kernel_rfl) (by kernel_rfl) (by kernel_rfl) (fun _ _ _ h => h) (Or.inl ⟨by rfl, ?_⟩) (by assumption) ?_
        rotate_left
        · intro w' hSw
          try dsimp only at hSw
          go_simp
          try with_reducible rfl
        try simp only [Act.put, List.setIfInBounds_toArray, List.set_cons_zero, List.set_cons_succ, List.getElem_toArray, List.getElem_cons_zero, List.getElem_cons_succ]
        refine wpAnyH_take (i := 8) (v := undef) rfl (by kernel_rfl) (by kernel_rfl) (by kernel_rfl) (fun _ _ _ h => h) (Or.inr ⟨by rfl, rfl⟩) (by assumption) ?_
        try simp only [Act.put, List.setIfInBounds_toArray, List.set_cons_zero, List.set_cons_succ, List.getElem_toArray, List.getElem_cons_zero, List.getElem_cons_succ]
        refine wpAnyH_take (i := 9) (v := undef) rfl (by kernel_rfl) (by kernel_rfl) (by kernel_rfl) (fun _ _ _ h => h) (Or.inr ⟨by rfl, rfl⟩) (by assumption) ?_
        try simp only [Act.put, List.setIfInBounds_toArray, List.set_cons_zero, List.set_cons_succ, List.getElem_toArray, List.getElem_cons_zero, List.getElem_cons_succ]
        refine wpAnyH_take (i := 10) (v := ?_) rfl (by kernel_rfl) (by kernel_rfl) (by kernel_rfl) (fun _ _ _ h => h) (Or.inl ⟨by rfl, ?_⟩) (by assumption) ?_
        rotate_left
        · intro w' hSw
          try dsimp only at hSw
          go_simp
          try with_reducible rfl
        try simp only [Act.put, List.setIfInBounds_toArray, List.set_cons_zero, List.set_cons_succ, List.getElem_toArray, List.getElem_cons_zero, List.getElem_cons_succ]
        refine wpAnyH_take (i := 11) (v := ?_) rfl (by kernel_rfl) (by kernel_rfl) (by kernel_rfl) (fun _ _ _ h => h) (Or.inl ⟨by rfl, ?_⟩) (by assumption) ?_
        rotate_left
        · intro w' hSw
          try dsimp only at hSw
          go_simp
          try with_reducible rfl
        try simp only [Act.put, List.setIfInBounds_toArray, List.set_cons_zero, List.set_cons_succ, List.getElem_toArray, List.getElem_cons_zero, List.getElem_cons_succ]
        refine wpAnyH_done (by kernel_rfl) ?_ _
        go_wp2_with fail
        go_ret
        exact ⟨by rfl, Hb2.out.trans (hHeld.1.mono Hb2.out.size)⟩
      exact AllReadyH.nil
    exact AllReadyH.nil
  | true =>
    go_wp2_with fail
    go_region_law (go_simp; first | (go_at_call 148; refine (HTR.out _).mono ?_; rintro e w3 ⟨rfl, hb3⟩; obtain ⟨q0, q1, q2, q3, q4, q5⟩ := Hp2.out.below (C0.trans (hb3.mono (Nat.le_refl _))); have B3 := B0.trans (hb3.mono B0.size)) | (go_at_call 48; refine (HSF.out _ B3).mono ?_; rintro e w4 ⟨rfl, hb4⟩; have B4 := B3.trans (hb4.mono B3.size)) | (go_at_call 49; refine (HNK.out _ B4).mono ?_; rintro e w5 ⟨rfl, hb5⟩; have B5 := B4.trans (hb5.mono B4.size)))
    all_goals
      go_wp2_with fail
      go_ret
      exact ⟨by rfl, B5⟩
end Go.Proofs.YtbfkkaafkinpmaaGreatDoor.tree
namespace Go.Proofs.YtbfkkaafkinpmaaGreatDoor.tree
open Go.ChangeShapes Go.WideShapes Go.ChangeAt Go.RowKit
open rune (Tabs)
set_option linter.unusedVariables false

set_option maxRecDepth 100000 in
set_option maxHeartbeats 8000000 in
theorem fields_6 {f : Nat} (fl : Bool) (n : Int) (s : ByteArray) (ks : List ByteArray) (kids : List T) (A1 A2 : Option Addr) (c1 c2 : Nat) (w : World) (h : LiesS w f [.int .i64 6, .bool fl, .int .i64 n, .string s, .slice A1 ks.length c1, .slice A2 kids.length c2] (row (T.mk 6 fl n s ks kids))) (hT : Tabs w) :
    Calls Tryz.prog 36 #[.agg #[.int .i64 6, .bool fl, .int .i64 n, .string s, .slice A1 ks.length c1, .slice A2 kids.length c2]] w fun e w' => e = .returned (.bool (dec (Node (T.mk 6 fl n s ks kids)))) ∧ Below w.heap.size w w' := by
  obtain ⟨B1, d1, B2, d2, e0, wk, wn, hs, hc1, hc2, hr, hks, _, _, f', hf, hk⟩ := open_tree h
  injection e0 with e0 e0'
  injection e0' with e1 e1'
  injection e1' with e2 e2'
  injection e2' with e3 e3'
  injection e3' with e4 e4'
  injection e4' with e5 e5'
  injection e4 with e6 _ e7
  injection e5 with e8 _ e9
  subst e6 e7 e8 e9
  obtain ⟨w1, hw1⟩ : ∃ w1, w1 = w.alloc (.cells #[.int .i64 6, .bool fl, .int .i64 n, .string s, .slice A1 ks.length c1, .slice A2 kids.length c2] 30) := ⟨_, rfl⟩
  have hb1 : Below w.heap.size w w1 := by rw [hw1]; exact (Below.refl _ _).alloc (Nat.le_refl _) _
  have hp : Row6 w1 w.heap.size (.int .i64 6) (.bool fl) (.int .i64 n) (.string s) (.slice A1 ks.length c1) (.slice A2 kids.length c2) := by rw [hw1]; exact Row6.of (heap_alloc_new w _)
  have HN := Lib.hid (nodeOf_6 fl n s A1 A2 ks.length c1 kids.length c2 w1)
  have HTR := Lib.hid (fun w' => tree_mapNode A1 A2 ks.length c1 kids.length c2 w')
  have HSF := Lib.hid (fun w' (hb : Below w.heap.size w w') => impl_fields (T.mk 6 false 0 ⟨#[]⟩ ks kids) (T.mk 6 fl n s ks kids) [.int .i64 6, .bool false, .int .i64 0, .string ⟨#[]⟩, .slice A1 ks.length c1, .slice A2 kids.length c2] _ w' (lies_part (h.below hb) (wf_small (by decide) (by decide)) (wf_small (by decide) (by decide)) (by decide) (.inr ⟨rfl, rfl⟩) (.inr ⟨rfl, rfl⟩)) (h.below hb))
  have HNK := Lib.hid (fun w' (hb : Below w.heap.size w w') => nodeOk_6 A1 A2 ks c1 kids.length c2 w' hc1 hc2 (hr.below hb) hks (hT.below hb))
  rw [node_6]
  have Hw1 := Lib.hid hw1
  have Hb1 := Lib.hid hb1
  have Hp := Lib.hid hp
  clear h hT hr hks hk hf hw1 hb1 hp hs hc1 hc2 wk wn e5' e0 e1 e2 e3
  generalize sameF (T.mk 6 false 0 ⟨#[]⟩ ks kids) (T.mk 6 fl n s ks kids) = b at HSF ⊢
  generalize (decide (ks.length = kids.length) && dec (KeysOk ks)) = R at HNK ⊢
  obtain ⟨p0, p1, p2, p3, p4, p5⟩ := Hp.out
  rw [Hw1.out] at p0 p1 p2 p3 p4 p5
  go_enter Tryz.func36, Tryz.ntmps36
  go_wp2_with fail
  rw [← Hw1.out]
  refine HN.out.mono ?_
  rintro e w2 ⟨rfl, hb2⟩
  have Hb2 := Lib.hid (Hb1.out.trans (hb2.mono Hb1.out.size))
  obtain ⟨q0, q1, q2, q3, q4, q5⟩ := Hp.out.below hb2
  have Hp2 := Lib.hid (Hp.out.below hb2)
  clear hb2 p0 p1 p2 p3 p4 p5 HN
  have B0 : Below w.heap.size w w2.drew := Hb2.out.trans ((Below.refl _ _).drew.mono Hb2.out.size)
  have C0 : Below w2.heap.size w2 w2.drew := (Below.refl _ _).drew
  have hinv := inv_6
  cases b with
  | false =>
    have KS := Lib.hid (show ∀ w', Below w2.heap.size w2 w' → (Below w2.heap.size w2 w' ∧ w'.cell? ⟨w.heap.size, 0, none⟩ = some (.int .i64 6) ∧ w'.cell? ⟨w.heap.size, 1, none⟩ = some (.bool fl) ∧ w'.cell? ⟨w.heap.size, 2, none⟩ = some (.int .i64 n) ∧ w'.cell? ⟨w.heap.size, 3, none⟩ = some (.string s) ∧ w'.cell? ⟨w.heap.size, 4, none⟩ = some (.slice A1 ks.length c1) ∧ w'.cell? ⟨w.heap.size, 5, none⟩ = some (.slice A2 kids.length c2)) from fun w' hb => by
      obtain ⟨q0, q1, q2, q3, q4, q5⟩ := Hp2.out.below hb
      exact ⟨hb, q0, q1, q2, q3, q4, q5⟩)
    go_wp2_with fail
    refine wp_region_held_drew (S := (fun w' => (Below w2.heap.size w2 w' ∧ w'.cell? ⟨w.heap.size, 0, none⟩ = some (.int .i64 6) ∧ w'.cell? ⟨w.heap.size, 1, none⟩ = some (.bool fl) ∧ w'.cell? ⟨w.heap.size, 2, none⟩ = some (.int .i64 n) ∧ w'.cell? ⟨w.heap.size, 3, none⟩ = some (.string s) ∧ w'.cell? ⟨w.heap.size, 4, none⟩ = some (.slice A1 ks.length c1) ∧ w'.cell? ⟨w.heap.size, 5, none⟩ = some (.slice A2 kids.length c2)))) (by kernel_rfl) ?_ (fun hHeld => ?_)
    · first | exact KS.out _ (Below.refl _ _).drew | exact KS.out _ hx4 | exact KS.out _ hx3
    refine wpAnyH_take (i := 0) (v := ?_) rfl (by kernel_rfl) (by kernel_rfl) (by kernel_rfl) (fun _ _ _ h => h) (Or.inl ⟨by rfl, ?_⟩) (by assumption) ?_
    rotate_left
    · intro w' hSw
      try dsimp only at hSw
      go_simp
      try with_reducible rfl
    try simp only [Act.put, List.setIfInBounds_toArray, List.set_cons_zero, List.set_cons_succ, List.getElem_toArray, List.getElem_cons_zero, List.getElem_cons_succ]
    refine wpAnyH_take (i := 1) (v := ?_) rfl (by kernel_rfl) (by kernel_rfl) (by kernel_rfl) (fun _ _ _ h => h) (Or.inl ⟨by rfl, ?_⟩) (by assumption) ?_
    rotate_left
    · intro w' hSw
      try dsimp only at hSw
      go_simp
      try with_reducible rfl
    try simp only [Act.put, List.setIfInBounds_toArray, List.set_cons_zero, List.set_cons_succ, List.getElem_toArray, List.getElem_cons_zero, List.getElem_cons_succ]
    refine wpAnyH_take (i := 2) (v := ?_) rfl (by kernel_rfl) (by kernel_rfl) (by kernel_rfl) (fun _ _ _ h => h) (Or.inl ⟨by rfl, ?_⟩) (by assumption) ?_
    rotate_left
    · intro w' hSw
      try dsimp only at hSw
      go_simp
      try with_reducible rfl
    try simp only [Act.put, List.setIfInBounds_toArray, List.set_cons_zero, List.set_cons_succ, List.getElem_toArray, List.getElem_cons_zero, List.getElem_cons_succ]
    refine wpAnyH_take (i := 4) (v := ?_) rfl (by kernel_rfl) (by kernel_rfl) (by kernel_rfl) (fun _ _ _ h => h) (Or.inl ⟨by rfl, ?_⟩) (by assumption) ?_
    rotate_left
    · intro w' hSw
      try dsimp only at hSw
      go_simp
      try with_reducible rfl
    try simp only [Act.put, List.setIfInBounds_toArray, List.set_cons_zero, List.set_cons_succ, List.getElem_toArray, List.getElem_cons_zero, List.getElem_cons_succ]
    refine wpAnyH_ready (rs := [3]) (by kernel_rfl) (by simp) ?_
    refine AllReadyH.cons rfl (fun K hK => ?_) ?_
    · go_simp
      go_at_call 149
      refine (HTR.out _).mono ?_
      rintro e w3 ⟨rfl, hb3⟩
      have hx3 := below_link hHeld.1 hb3 hHeld.1.size
      go_wp2_with fail
      refine hK.out _ _ ?_ (fun hHeld => ?_)
      · first | exact KS.out _ (Below.refl _ _).drew | exact KS.out _ hx4 | exact KS.out _ hx3
      clear hK K
      try simp only [Act.put, List.setIfInBounds_toArray, List.set_cons_zero, List.set_cons_succ, List.getElem_toArray, List.getElem_cons_zero, List.getElem_cons_succ]
      refine wpAnyH_ready (rs := [5]) (by kernel_rfl) (by simp) ?_
      refine AllReadyH.cons rfl (fun K hK => ?_) ?_
      · go_simp
        go_at_call 48
        refine (HSF.out _ (Hb2.out.trans (hHeld.1.mono Hb2.out.size))).mono ?_
        rintro e w4 ⟨rfl, hb4⟩
        have hx4 := below_link hHeld.1 hb4 hHeld.1.size
        go_wp2_with fail
        refine hK.out _ _ ?_ (fun hHeld => ?_)
        · first | exact KS.out _ (Below.refl _ _).drew | exact KS.out _ hx4 | exact KS.out _ hx3
        clear hK K
        try simp only [Act.put, List.setIfInBounds_toArray, List.set_cons_zero, List.set_cons_succ, List.getElem_toArray, List.getElem_cons_zero, List.getElem_cons_succ]
        refine wpAnyH_take (i := 6) (v := ?_) rfl (by kernel_rfl) (by kernel_rfl) (by kernel_rfl) (fun _ _ _ h => h) (Or.inl ⟨by rfl, ?_⟩) (by assumption) ?_
        rotate_left
        · intro w' hSw
          try dsimp only at hSw
          go_simp
          try with_reducible rfl
        try simp only [Act.put, List.setIfInBounds_toArray, List.set_cons_zero, List.set_cons_succ, List.getElem_toArray, List.getElem_cons_zero, List.getElem_cons_succ]
        refine wpAnyH_take (i := 7) (v := ?_) rfl (by kernel_rfl) (by kernel_rfl) (by kernel_rfl) (fun _ _ _ h => h) (Or.inl ⟨by rfl, ?_⟩) (by assumption) ?_
        rotate_left
        · intro w' hSw
          try dsimp only at hSw
          go_simp
          try with_reducible rfl
        try simp only [Act.put, List.setIfInBounds_toArray, List.set_cons_zero, List.set_cons_succ, List.getElem_toArray, List.getElem_cons_zero, List.getElem_cons_succ]
        refine wpAnyH_take (i := 8) (v := undef) rfl (by kernel_rfl) (by kernel_rfl) (by kernel_rfl) (fun _ _ _ h => h) (Or.inr ⟨by rfl, rfl⟩) (by assumption) ?_
        try simp only [Act.put, List.setIfInBounds_toArray, List.set_cons_zero, List.set_cons_succ, List.getElem_toArray, List.getElem_cons_zero, List.getElem_cons_succ]
        refine wpAnyH_take (i := 9) (v := undef) rfl (by kernel_rfl) (by kernel_rfl) (by kernel_rfl) (fun _ _ _ h => h) (Or.inr ⟨by rfl, rfl⟩) (by assumption) ?_
        try simp only [Act.put, List.setIfInBounds_toArray, List.set_cons_zero, List.set_cons_succ, List.getElem_toArray, List.getElem_cons_zero, List.getElem_cons_succ]
        refine wpAnyH_take (i := 10) (v := ?_) rfl (by kernel_rfl) (by kernel_rfl) (by kernel_rfl) (fun _ _ _ h => h) (Or.inl ⟨by rfl, ?_⟩) (by assumption) ?_
        rotate_left
        · intro w' hSw
          try dsimp only at hSw
          go_simp
          try with_reducible rfl
        try simp only [Act.put, List.setIfInBounds_toArray, List.set_cons_zero, List.set_cons_succ, List.getElem_toArray, List.getElem_cons_zero, List.getElem_cons_succ]
        refine wpAnyH_take (i := 11) (v := ?_) rfl (by kernel_rfl) (by kernel_rfl) (by kernel_rfl) (fun _ _ _ h => h) (Or.inl ⟨by rfl, ?_⟩) (by assumption) ?_
        rotate_left
        · intro w' hSw
          try dsimp only at hSw
          go_simp
          try with_reducible rfl
        try simp only [Act.put, List.setIfInBounds_toArray, List.set_cons_zero, List.set_cons_succ, List.getElem_toArray, List.getElem_cons_zero, List.getElem_cons_succ]
        refine wpAnyH_done (by kernel_rfl) ?_ _
        go_wp2_with fail
        go_ret
        exact ⟨by rfl, Hb2.out.trans (hHeld.1.mono Hb2.out.size)⟩
      exact AllReadyH.nil
    exact AllReadyH.nil
  | true =>
    go_wp2_with fail
    go_region_law (go_simp; first | (go_at_call 149; refine (HTR.out _).mono ?_; rintro e w3 ⟨rfl, hb3⟩; obtain ⟨q0, q1, q2, q3, q4, q5⟩ := Hp2.out.below (C0.trans (hb3.mono (Nat.le_refl _))); have B3 := B0.trans (hb3.mono B0.size)) | (go_at_call 48; refine (HSF.out _ B3).mono ?_; rintro e w4 ⟨rfl, hb4⟩; have B4 := B3.trans (hb4.mono B3.size)) | (go_at_call 49; refine (HNK.out _ B4).mono ?_; rintro e w5 ⟨rfl, hb5⟩; have B5 := B4.trans (hb5.mono B4.size)))
    all_goals
      go_wp2_with fail
      go_ret
      exact ⟨by rfl, B5⟩
end Go.Proofs.YtbfkkaafkinpmaaGreatDoor.tree
