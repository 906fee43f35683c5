/- Merged: TrFieI TrFieJ. -/
import Derived.Test.YtbfkkaafkinpmaaGreatDoorGNod
import Derived.Test.YtbfkkaafkinpmaaGreatDoorGTree
import Derived.Deep.RegionHeld3
namespace Go.Proofs.YtbfkkaafkinpmaaGreatDoor.tree
open Go.ChangeShapes Go.WideShapes Go.ChangeAt Go.RowKit
open rune (Tabs)
set_option linter.unusedVariables false

theorem inv_1 (n : Nat) (x : Value) (w : World) : (method (n + 1) 83 x "loop.example/g00968/impl.tree").run Tryz.prog w = .ok (144, x) w := by kernel_rfl
theorem ast_1 (x : Value) (w : World) : (Instr.typeAssert (.iface 83 x) 70 89 true).run Tryz.prog w = .ok (.tuple #[.agg #[.string ⟨#[]⟩], .bool false]) w := by kernel_rfl
theorem asm_1 (x : Value) (w : World) : (Instr.typeAssert (.iface 83 x) 70 93 true).run Tryz.prog w = .ok (.tuple #[.agg #[.slice none 0 0, .slice none 0 0], .bool false]) w := by kernel_rfl
theorem inv_2 (n : Nat) (x : Value) (w : World) : (method (n + 1) 85 x "loop.example/g00968/impl.tree").run Tryz.prog w = .ok (145, x) w := by kernel_rfl
theorem ast_2 (x : Value) (w : World) : (Instr.typeAssert (.iface 85 x) 70 89 true).run Tryz.prog w = .ok (.tuple #[.agg #[.string ⟨#[]⟩], .bool false]) w := by kernel_rfl
theorem asm_2 (x : Value) (w : World) : (Instr.typeAssert (.iface 85 x) 70 93 true).run Tryz.prog w = .ok (.tuple #[.agg #[.slice none 0 0, .slice none 0 0], .bool false]) w := by kernel_rfl
theorem inv_3 (n : Nat) (x : Value) (w : World) : (method (n + 1) 87 x "loop.example/g00968/impl.tree").run Tryz.prog w = .ok (146, x) w := by kernel_rfl
theorem ast_3 (x : Value) (w : World) : (Instr.typeAssert (.iface 87 x) 70 89 true).run Tryz.prog w = .ok (.tuple #[.agg #[.string ⟨#[]⟩], .bool false]) w := by kernel_rfl
theorem asm_3 (x : Value) (w : World) : (Instr.typeAssert (.iface 87 x) 70 93 true).run Tryz.prog w = .ok (.tuple #[.agg #[.slice none 0 0, .slice none 0 0], .bool false]) w := by kernel_rfl
theorem inv_4 (n : Nat) (x : Value) (w : World) : (method (n + 1) 89 x "loop.example/g00968/impl.tree").run Tryz.prog w = .ok (147, x) w := by kernel_rfl
theorem ast_4 (x : Value) (w : World) : (Instr.typeAssert (.iface 89 x) 70 89 true).run Tryz.prog w = .ok (.tuple #[x, .bool true]) w := by kernel_rfl
theorem asm_4 (x : Value) (w : World) : (Instr.typeAssert (.iface 89 x) 70 93 true).run Tryz.prog w = .ok (.tuple #[.agg #[.slice none 0 0, .slice none 0 0], .bool false]) w := by kernel_rfl
theorem inv_5 (n : Nat) (x : Value) (w : World) : (method (n + 1) 91 x "loop.example/g00968/impl.tree").run Tryz.prog w = .ok (148, x) w := by kernel_rfl
theorem ast_5 (x : Value) (w : World) : (Instr.typeAssert (.iface 91 x) 70 89 true).run Tryz.prog w = .ok (.tuple #[.agg #[.string ⟨#[]⟩], .bool false]) w := by kernel_rfl
theorem asm_5 (x : Value) (w : World) : (Instr.typeAssert (.iface 91 x) 70 93 true).run Tryz.prog w = .ok (.tuple #[.agg #[.slice none 0 0, .slice none 0 0], .bool false]) w := by kernel_rfl
theorem inv_6 (n : Nat) (x : Value) (w : World) : (method (n + 1) 93 x "loop.example/g00968/impl.tree").run Tryz.prog w = .ok (149, x) w := by kernel_rfl
theorem ast_6 (x : Value) (w : World) : (Instr.typeAssert (.iface 93 x) 70 89 true).run Tryz.prog w = .ok (.tuple #[.agg #[.string ⟨#[]⟩], .bool false]) w := by kernel_rfl
theorem asm_6 (x : Value) (w : World) : (Instr.typeAssert (.iface 93 x) 70 93 true).run Tryz.prog w = .ok (.tuple #[x, .bool true]) w := by kernel_rfl
theorem nodeOk_1  (w : World) :
    Calls Tryz.prog 49 #[.iface 83 (.agg #[])] w fun e w' => e = .returned (.bool true) ∧ Below w.heap.size w w' := by
  have h1 := ast_1
  have h2 := asm_1
  go_enter Tryz.func49, Tryz.ntmps49
  go_wp2_with fail
  go_ret
  exact ⟨rfl, Below.refl _ _⟩
theorem nodeOk_2 (fl : Bool) (w : World) :
    Calls Tryz.prog 49 #[.iface 85 (.agg #[.bool fl])] w fun e w' => e = .returned (.bool true) ∧ Below w.heap.size w w' := by
  have h1 := ast_2
  have h2 := asm_2
  go_enter Tryz.func49, Tryz.ntmps49
  go_wp2_with fail
  go_ret
  exact ⟨rfl, Below.refl _ _⟩
theorem nodeOk_3 (n : Int) (w : World) :
    Calls Tryz.prog 49 #[.iface 87 (.agg #[.int .i64 n])] w fun e w' => e = .returned (.bool true) ∧ Below w.heap.size w w' := by
  have h1 := ast_3
  have h2 := asm_3
  go_enter Tryz.func49, Tryz.ntmps49
  go_wp2_with fail
  go_ret
  exact ⟨rfl, Below.refl _ _⟩
theorem nodeOk_5 (A2 : Option Addr) (n2 c2 : Nat) (w : World) :
    Calls Tryz.prog 49 #[.iface 91 (.agg #[.slice A2 n2 c2])] w fun e w' => e = .returned (.bool true) ∧ Below w.heap.size w w' := by
  have h1 := ast_5
  have h2 := asm_5
  go_enter Tryz.func49, Tryz.ntmps49
  go_wp2_with fail
  go_ret
  exact ⟨rfl, Below.refl _ _⟩
theorem nodeOk_4 (s : ByteArray) (w : World) (hs : s.size ≤ maxLen) (hT : Tabs w) :
    Calls Tryz.prog 49 #[.iface 89 (.agg #[.string s])] w fun e w' => e = .returned (.bool (dec (TextOk s))) ∧ Below w.heap.size w w' := by
  have hb1 : Below w.heap.size w (w.alloc (.cells #[.string s] 89)) := (Below.refl _ _).alloc (Nat.le_refl _) _
  have HW := Lib.hid (impl_word s (w.alloc (.cells #[.string s] 89)) hs (hT.below hb1))
  have Hb1 := Lib.hid hb1
  clear hb1 hT hs
  generalize dec (TextOk s) = R at HW ⊢
  have h1 := ast_4
  go_enter Tryz.func49, Tryz.ntmps49
  go_wp2_with fail
  refine HW.out.mono ?_
  rintro e w1 ⟨rfl, hb⟩
  have Hb := Lib.hid (below_link Hb1.out hb Hb1.out.size)
  clear hb HW
  go_wp2_with fail
  go_ret
  exact ⟨rfl, Hb.out⟩
theorem nodeOk_6 (A1 A2 : Option Addr) (ks : List ByteArray) (c1 n2 c2 : Nat) (w : World) (hc : ks.length ≤ c1) (hm : c1 ≤ maxLen) (hr : Rd w A1 ks.length (scells ks)) (hks : ∀ x ∈ ks, x.size ≤ maxLen) (hT : Tabs w) :
    Calls Tryz.prog 49 #[.iface 93 (.agg #[.slice A1 ks.length c1, .slice A2 n2 c2])] w fun e w' => e = .returned (.bool (decide (ks.length = n2) && dec (KeysOk ks))) ∧ Below w.heap.size w w' := by
  have hb1 : Below w.heap.size w (w.alloc (.cells #[.slice A1 ks.length c1, .slice A2 n2 c2] 93)) := (Below.refl _ _).alloc (Nat.le_refl _) _
  have HW := Lib.hid (impl_keys A1 c1 ks (w.alloc (.cells #[.slice A1 ks.length c1, .slice A2 n2 c2] 93)) hc hm (hr.below hb1) hks (hT.below hb1))
  have Hb1 := Lib.hid hb1
  clear hb1 hT hr hks hc hm
  generalize dec (KeysOk ks) = R at HW ⊢
  have h1 := ast_6
  have h2 := asm_6
  by_cases hl : ks.length = n2
  · have e1 : (((ks.length : Nat) : Int) == (n2 : Nat)) = true := by rw [hl]; simp
    rw [decide_eq_true hl]
    clear hl
    go_enter Tryz.func49, Tryz.ntmps49
    go_wp2_with fail
    refine HW.out.mono ?_
    rintro e w1 ⟨rfl, hb⟩
    have Hb := Lib.hid (below_link Hb1.out hb Hb1.out.size)
    clear hb HW
    go_wp2_with fail
    go_ret
    exact ⟨by rfl, Hb.out⟩
  · have e1 : (((ks.length : Nat) : Int) == (n2 : Nat)) = false := beq_eq_false_iff_ne.2 (by omega)
    rw [decide_eq_false hl]
    clear hl HW
    go_enter Tryz.func49, Tryz.ntmps49
    go_wp2_with fail
    go_ret
    exact ⟨by rfl, Hb1.out⟩
/-- A tree of which some fields are struck. -/
theorem lies_part {w : World} {f : Nat} {k k' : Int} {fl fl' : Bool} {n n' : Int} {s s' : ByteArray} {ks ks' : List ByteArray} {kids kids' : List T} {u4 u5 v4 v5 : Value} (h : LiesS w f [.int .i64 k, .bool fl, .int .i64 n, .string s, u4, u5] (row (.mk k fl n s ks kids)))
    (hk : (Lit.int .i64 k').wf = true) (hn : (Lit.int .i64 n').wf = true) (hs : s'.size ≤ maxLen) (h4 : (v4 = .slice none 0 0 ∧ ks' = []) ∨ (v4 = u4 ∧ ks' = ks)) (h5 : (v5 = .slice none 0 0 ∧ kids' = []) ∨ (v5 = u5 ∧ kids' = kids)) :
    LiesS w (f + 1) [.int .i64 k', .bool fl', .int .i64 n', .string s', v4, v5] (row (.mk k' fl' n' s' ks' kids')) := by
  rw [row]
  have l0 : Lies w (f + 1) (.int .i64 k') (.int .i64 k') := ⟨rfl, hk⟩
  have l1 : Lies w (f + 1) (.bool fl') (.bool fl') := rfl
  have l2 : Lies w (f + 1) (.int .i64 n') (.int .i64 n') := ⟨rfl, hn⟩
  have l3 : Lies w (f + 1) (.string s') (.str s') := ⟨rfl, hs⟩
  have l4 : Lies w (f + 1) v4 (.sl 1 ks'.length (skeys ks')) := by
    rcases h4 with ⟨rfl, rfl⟩ | ⟨rfl, rfl⟩
    · exact (own_nil w 0 f 1).lies
    · exact Lies.deeper (Nat.le_succ f) (h.2 4 _ _ rfl rfl)
  have l5 : Lies w (f + 1) v5 (.sl 6 kids'.length (rows kids')) := by
    rcases h5 with ⟨rfl, rfl⟩ | ⟨rfl, rfl⟩
    · simpa [rows] using (own_nil w 0 f 6).lies
    · exact Lies.deeper (Nat.le_succ f) (h.2 5 _ _ rfl rfl)
  exact LiesS.cons l0 (LiesS.cons l1 (LiesS.cons l2 (LiesS.cons l3 (LiesS.cons l4 (LiesS.cons l5 LiesS.nil)))))


set_option maxRecDepth 100000 in
set_option maxHeartbeats 8000000 in
theorem fields_1 {f : Nat} (fl : Bool) (n : Int) (s : ByteArray) (ks : List ByteArray) (kids : List T) (A1 A2 : Option Addr) (c1 c2 : Nat) (w : World) (h : LiesS w f [.int .i64 1, .bool fl, .int .i64 n, .string s, .slice A1 ks.length c1, .slice A2 kids.length c2] (row (T.mk 1 fl n s ks kids))) (hT : Tabs w) :
    Calls Tryz.prog 36 #[.agg #[.int .i64 1, .bool fl, .int .i64 n, .string s, .slice A1 ks.length c1, .slice A2 kids.length c2]] w fun e w' => e = .returned (.bool (dec (Node (T.mk 1 fl n s ks kids)))) ∧ Below w.heap.size w w' := by
  obtain ⟨B1, d1, B2, d2, e0, wk, wn, hs, hc1, hc2, hr, hks, _, _, f', hf, hk⟩ := open_tree h
  injection e0 with e0 e0'
  injection e0' with e1 e1'
  injection e1' with e2 e2'
  injection e2' with e3 e3'
  injection e3' with e4 e4'
  injection e4' with e5 e5'
  injection e4 with e6 _ e7
  injection e5 with e8 _ e9
  subst e6 e7 e8 e9
  obtain ⟨w1, hw1⟩ : ∃ w1, w1 = w.alloc (.cells #[.int .i64 1, .bool fl, .int .i64 n, .string s, .slice A1 ks.length c1, .slice A2 kids.length c2] 30) := ⟨_, rfl⟩
  have hb1 : Below w.heap.size w w1 := by rw [hw1]; exact (Below.refl _ _).alloc (Nat.le_refl _) _
  have hp : Row6 w1 w.heap.size (.int .i64 1) (.bool fl) (.int .i64 n) (.string s) (.slice A1 ks.length c1) (.slice A2 kids.length c2) := by rw [hw1]; exact Row6.of (heap_alloc_new w _)
  have HN := Lib.hid (nodeOf_1 fl n s A1 A2 ks.length c1 kids.length c2 w1)
  have HTR := Lib.hid (fun w' => tree_nullNode  w')
  have HSF := Lib.hid (fun w' (hb : Below w.heap.size w w') => impl_fields (T.mk 1 false 0 ⟨#[]⟩ [] []) (T.mk 1 fl n s ks kids) [.int .i64 1, .bool false, .int .i64 0, .string ⟨#[]⟩, .slice none 0 0, .slice none 0 0] _ w' (lies_part (h.below hb) (wf_small (by decide) (by decide)) (wf_small (by decide) (by decide)) (by decide) (.inl ⟨rfl, rfl⟩) (.inl ⟨rfl, rfl⟩)) (h.below hb))
  have HNK := Lib.hid (fun w' (hb : Below w.heap.size w w') => nodeOk_1 w' )
  rw [node_1]
  have Hw1 := Lib.hid hw1
  have Hb1 := Lib.hid hb1
  have Hp := Lib.hid hp
  clear h hT hr hks hk hf hw1 hb1 hp hs hc1 hc2 wk wn e5' e0 e1 e2 e3
  generalize sameF (T.mk 1 false 0 ⟨#[]⟩ [] []) (T.mk 1 fl n s ks kids) = b at HSF ⊢
  obtain ⟨p0, p1, p2, p3, p4, p5⟩ := Hp.out
  rw [Hw1.out] at p0 p1 p2 p3 p4 p5
  go_enter Tryz.func36, Tryz.ntmps36
  go_wp2_with fail
  rw [← Hw1.out]
  refine HN.out.mono ?_
  rintro e w2 ⟨rfl, hb2⟩
  have Hb2 := Lib.hid (Hb1.out.trans (hb2.mono Hb1.out.size))
  obtain ⟨q0, q1, q2, q3, q4, q5⟩ := Hp.out.below hb2
  have Hp2 := Lib.hid (Hp.out.below hb2)
  clear hb2 p0 p1 p2 p3 p4 p5 HN
  have B0 : Below w.heap.size w w2.drew := Hb2.out.trans ((Below.refl _ _).drew.mono Hb2.out.size)
  have C0 : Below w2.heap.size w2 w2.drew := (Below.refl _ _).drew
  have hinv := inv_1
  cases b with
  | false =>
    have KS := Lib.hid (show ∀ w', Below w2.heap.size w2 w' → (Below w2.heap.size w2 w' ∧ w'.cell? ⟨w.heap.size, 0, none⟩ = some (.int .i64 1) ∧ w'.cell? ⟨w.heap.size, 1, none⟩ = some (.bool fl) ∧ w'.cell? ⟨w.heap.size, 2, none⟩ = some (.int .i64 n) ∧ w'.cell? ⟨w.heap.size, 3, none⟩ = some (.string s) ∧ w'.cell? ⟨w.heap.size, 4, none⟩ = some (.slice A1 ks.length c1) ∧ w'.cell? ⟨w.heap.size, 5, none⟩ = some (.slice A2 kids.length c2)) from fun w' hb => by
      obtain ⟨q0, q1, q2, q3, q4, q5⟩ := Hp2.out.below hb
      exact ⟨hb, q0, q1, q2, q3, q4, q5⟩)
    go_wp2_with fail
    refine wp_region_held_drew (S := (fun w' => (Below w2.heap.size w2 w' ∧ w'.cell? ⟨w.heap.size, 0, none⟩ = some (.int .i64 1) ∧ w'.cell? ⟨w.heap.size, 1, none⟩ = some (.bool fl) ∧ w'.cell? ⟨w.heap.size, 2, none⟩ = some (.int .i64 n) ∧ w'.cell? ⟨w.heap.size, 3, none⟩ = some (.string s) ∧ w'.cell? ⟨w.heap.size, 4, none⟩ = some (.slice A1 ks.length c1) ∧ w'.cell? ⟨w.heap.size, 5, none⟩ = some (.slice A2 kids.length c2)))) (by kernel_rfl) ?_ (fun hHeld => ?_)
    · first | exact KS.out _ (Below.refl _ _).drew | exact KS.out _ hx4 | exact KS.out _ hx3
    refine wpAnyH_take (i := 0) (v := ?_) rfl (by kernel_rfl) (by kernel_rfl) (by kernel_rfl) (fun _ _ _ h => h) (Or.inl ⟨by rfl, ?_⟩) (by assumption) ?_
    rotate_left
    · intro w' hSw
      try dsimp only at hSw
      go_simp
      try with_reducible rfl
    try simp only [Act.put, List.setIfInBounds_toArray, List.set_cons_zero, List.set_cons_succ, List.getElem_toArray, List.getElem_cons_zero, List.getElem_cons_succ]
    refine wpAnyH_take (i := 1) (v := ?_) rfl (by kernel_rfl) (by kernel_rfl) (by kernel_rfl) (fun _ _ _ h => h) (Or.inl ⟨by rfl, ?_⟩) (by assumption) ?_
    rotate_left
    · intro w' hSw
      try dsimp only at hSw
      go_simp
      try with_reducible rfl
    try simp only [Act.put, List.setIfInBounds_toArray, List.set_cons_zero, List.set_cons_succ, List.getElem_toArray, List.getElem_cons_zero, List.getElem_cons_succ]
    refine wpAnyH_take (i := 2) (v := ?_) rfl (by kernel_rfl) (by kernel_rfl) (by kernel_rfl) (fun _ _ _ h => h) (Or.inl ⟨by rfl, ?_⟩) (by assumption) ?_
    rotate_left
    · intro w' hSw
      try dsimp only at hSw
      go_simp
      try with_reducible rfl
    try simp only [Act.put, List.setIfInBounds_toArray, List.set_cons_zero, List.set_cons_succ, List.getElem_toArray, List.getElem_cons_zero, List.getElem_cons_succ]
    refine wpAnyH_take (i := 4) (v := ?_) rfl (by kernel_rfl) (by kernel_rfl) (by kernel_rfl) (fun _ _ _ h => h) (Or.inl ⟨by rfl, ?_⟩) (by assumption) ?_
    rotate_left
    · intro w' hSw
      try dsimp only at hSw
      go_simp
      try with_reducible rfl
    try simp only [Act.put, List.setIfInBounds_toArray, List.set_cons_zero, List.set_cons_succ, List.getElem_toArray, List.getElem_cons_zero, List.getElem_cons_succ]
    refine wpAnyH_ready (rs := [3]) (by kernel_rfl) (by simp) ?_
    refine AllReadyH.cons rfl (fun K hK => ?_) ?_
    · go_simp
      go_at_call 144
      refine (HTR.out _).mono ?_
      rintro e w3 ⟨rfl, hb3⟩
      have hx3 := below_link hHeld.1 hb3 hHeld.1.size
      go_wp2_with fail
      refine hK.out _ _ ?_ (fun hHeld => ?_)
      · first | exact KS.out _ (Below.refl _ _).drew | exact KS.out _ hx4 | exact KS.out _ hx3
      clear hK K
      try simp only [Act.put, List.setIfInBounds_toArray, List.set_cons_zero, List.set_cons_succ, List.getElem_toArray, List.getElem_cons_zero, List.getElem_cons_succ]
      refine wpAnyH_ready (rs := [5]) (by kernel_rfl) (by simp) ?_
      refine AllReadyH.cons rfl (fun K hK => ?_) ?_
      · go_simp
        go_at_call 48
        refine (HSF.out _ (Hb2.out.trans (hHeld.1.mono Hb2.out.size))).mono ?_
        rintro e w4 ⟨rfl, hb4⟩
        have hx4 := below_link hHeld.1 hb4 hHeld.1.size
        go_wp2_with fail
        refine hK.out _ _ ?_ (fun hHeld => ?_)
        · first | exact KS.out _ (Below.refl _ _).drew | exact KS.out _ hx4 | exact KS.out _ hx3
        clear hK K
        try simp only [Act.put, List.setIfInBounds_toArray, List.set_cons_zero, List.set_cons_succ, List.getElem_toArray, List.getElem_cons_zero, List.getElem_cons_succ]
        refine wpAnyH_take (i := 6) (v := ?_) rfl (by kernel_rfl) (by kernel_rfl) (by kernel_rfl) (fun _ _ _ h => h) (Or.inl ⟨by rfl, ?_⟩) (by assumption) ?_
        rotate_left
        · intro w' hSw
          try dsimp only at hSw
          go_simp
          try with_reducible rfl
        try simp only [Act.put, List.setIfInBounds_toArray, List.set_cons_zero, List.set_cons_succ, List.getElem_toArray, List.getElem_cons_zero, List.getElem_cons_succ]
        refine wpAnyH_take (i := 7) (v := ?_) rfl (by kernel_rfl) (by kernel_rfl) (by kernel_rfl) (fun _ _ _ h => h) (Or.inl ⟨by rfl, ?_⟩) (by assumption) ?_
        rotate_left
        · intro w' hSw
          try dsimp only at hSw
          go_simp
          try with_reducible rfl
        try simp only [Act.put, List.setIfInBounds_toArray, List.set_cons_zero, List.set_cons_succ, List.getElem_toArray, List.getElem_cons_zero, List.getElem_cons_succ]
        refine wpAnyH_take (i := 8) (v := undef) rfl (by kernel_rfl) (by kernel_rfl) (by kernel_rfl) (fun _ _ _ h => h) (Or.inr ⟨by rfl, rfl⟩) (by assumption) ?_
        try simp only [Act.put, List.setIfInBounds_toArray, List.set_cons_zero, List.set_cons_succ, List.getElem_toArray, List.getElem_cons_zero, List.getElem_cons_succ]
        refine wpAnyH_take (i := 9) (v := undef) rfl (by kernel_rfl) (by kernel_rfl) (by kernel_rfl) (fun _ _ _ h => h) (Or.inr ⟨by rfl, rfl⟩) (by assumption) ?_
        try simp only [Act.put, List.setIfInBounds_toArray, List.set_cons_zero, List.set_cons_succ, List.getElem_toArray, List.getElem_cons_zero, List.getElem_cons_succ]
        refine wpAnyH_take (i := 10) (v := ?_) rfl (by kernel_rfl) (by kernel_rfl) (by kernel_rfl) (fun _ _ _ h => h) (Or.inl ⟨by rfl, ?_⟩) (by assumption) ?_
        rotate_left
        · intro w' hSw
          try dsimp only at hSw
          go_simp
          try with_reducible rfl
        try simp only [Act.put, List.setIfInBounds_toArray, List.set_cons_zero, List.set_cons_succ, List.getElem_toArray, List.getElem_cons_zero, List.getElem_cons_succ]
        refine wpAnyH_take (i := 11) (v := ?_) rfl (by kernel_rfl) (by kernel_rfl) (by kernel_rfl) (fun _ _ _ h => h) (Or.inl ⟨by rfl, ?_⟩) (by assumption) ?_
        rotate_left
        · intro w' hSw
          try dsimp only at hSw
          go_simp
          try with_reducible rfl
        try simp only [Act.put, List.setIfInBounds_toArray, List.set_cons_zero, List.set_cons_succ, List.getElem_toArray, List.getElem_cons_zero, List.getElem_cons_succ]
        refine wpAnyH_done (by kernel_rfl) ?_ _
        go_wp2_with fail
        go_ret
        exact ⟨by rfl, Hb2.out.trans (hHeld.1.mono Hb2.out.size)⟩
      exact AllReadyH.nil
    exact AllReadyH.nil
  | true =>
    go_wp2_with fail
    go_region_law (go_simp; first | (go_at_call 144; refine (HTR.out _).mono ?_; rintro e w3 ⟨rfl, hb3⟩; obtain ⟨q0, q1, q2, q3, q4, q5⟩ := Hp2.out.below (C0.trans (hb3.mono (Nat.le_refl _))); have B3 := B0.trans (hb3.mono B0.size)) | (go_at_call 48; refine (HSF.out _ B3).mono ?_; rintro e w4 ⟨rfl, hb4⟩; have B4 := B3.trans (hb4.mono B3.size)) | (go_at_call 49; refine (HNK.out _ B4).mono ?_; rintro e w5 ⟨rfl, hb5⟩; have B5 := B4.trans (hb5.mono B4.size)))
    all_goals
      go_wp2_with fail
      go_ret
      exact ⟨by rfl, B5⟩

end Go.Proofs.YtbfkkaafkinpmaaGreatDoor.tree
namespace Go.Proofs.YtbfkkaafkinpmaaGreatDoor.tree
open Go.ChangeShapes Go.WideShapes Go.ChangeAt Go.RowKit
open rune (Tabs)
set_option linter.unusedVariables false

set_option maxRecDepth 100000 in
set_option maxHeartbeats 8000000 in
theorem fields_2 {f : Nat} (fl : Bool) (n : Int) (s : ByteArray) (ks : List ByteArray) (kids : List T) (A1 A2 : Option Addr) (c1 c2 : Nat) (w : World) (h : LiesS w f [.int .i64 2, .bool fl, .int .i64 n, .string s, .slice A1 ks.length c1, .slice A2 kids.length c2] (row (T.mk 2 fl n s ks kids))) (hT : Tabs w) :
    Calls Tryz.prog 36 #[.agg #[.int .i64 2, .bool fl, .int .i64 n, .string s, .slice A1 ks.length c1, .slice A2 kids.length c2]] w fun e w' => e = .returned (.bool (dec (Node (T.mk 2 fl n s ks kids)))) ∧ Below w.heap.size w w' := by
  obtain ⟨B1, d1, B2, d2, e0, wk, wn, hs, hc1, hc2, hr, hks, _, _, f', hf, hk⟩ := open_tree h
  injection e0 with e0 e0'
  injection e0' with e1 e1'
  injection e1' with e2 e2'
  injection e2' with e3 e3'
  injection e3' with e4 e4'
  injection e4' with e5 e5'
  injection e4 with e6 _ e7
  injection e5 with e8 _ e9
  subst e6 e7 e8 e9
  obtain ⟨w1, hw1⟩ : ∃ w1, w1 = w.alloc (.cells #[.int .i64 2, .bool fl, .int .i64 n, .string s, .slice A1 ks.length c1, .slice A2 kids.length c2] 30) := ⟨_, rfl⟩
  have hb1 : Below w.heap.size w w1 := by rw [hw1]; exact (Below.refl _ _).alloc (Nat.le_refl _) _
  have hp : Row6 w1 w.heap.size (.int .i64 2) (.bool fl) (.int .i64 n) (.string s) (.slice A1 ks.length c1) (.slice A2 kids.length c2) := by rw [hw1]; exact Row6.of (heap_alloc_new w _)
  have HN := Lib.hid (nodeOf_2 fl n s A1 A2 ks.length c1 kids.length c2 w1)
  have HTR := Lib.hid (fun w' => tree_flagNode fl w')
  have HSF := Lib.hid (fun w' (hb : Below w.heap.size w w') => impl_fields (T.mk 2 fl 0 ⟨#[]⟩ [] []) (T.mk 2 fl n s ks kids) [.int .i64 2, .bool fl, .int .i64 0, .string ⟨#[]⟩, .slice none 0 0, .slice none 0 0] _ w' (lies_part (h.below hb) (wf_small (by decide) (by decide)) (wf_small (by decide) (by decide)) (by decide) (.inl ⟨rfl, rfl⟩) (.inl ⟨rfl, rfl⟩)) (h.below hb))
  have HNK := Lib.hid (fun w' (hb : Below w.heap.size w w') => nodeOk_2 fl w' )
  rw [node_2]
  have Hw1 := Lib.hid hw1
  have Hb1 := Lib.hid hb1
  have Hp := Lib.hid hp
  clear h hT hr hks hk hf hw1 hb1 hp hs hc1 hc2 wk wn e5' e0 e1 e2 e3
  generalize sameF (T.mk 2 fl 0 ⟨#[]⟩ [] []) (T.mk 2 fl n s ks kids) = b at HSF ⊢
  obtain ⟨p0, p1, p2, p3, p4, p5⟩ := Hp.out
  rw [Hw1.out] at p0 p1 p2 p3 p4 p5
  go_enter Tryz.func36, Tryz.ntmps36
  go_wp2_with fail
  rw [← Hw1.out]
  refine HN.out.mono ?_
  rintro e w2 ⟨rfl, hb2⟩
  have Hb2 := Lib.hid (Hb1.out.trans (hb2.mono Hb1.out.size))
  obtain ⟨q0, q1, q2, q3, q4, q5⟩ := Hp.out.below hb2
  have Hp2 := Lib.hid (Hp.out.below hb2)
  clear hb2 p0 p1 p2 p3 p4 p5 HN
  have B0 : Below w.heap.size w w2.drew := Hb2.out.trans ((Below.refl _ _).drew.mono Hb2.out.size)
  have C0 : Below w2.heap.size w2 w2.drew := (Below.refl _ _).drew
  have hinv := inv_2
  cases b with
  | false =>
    have KS := Lib.hid (show ∀ w', Below w2.heap.size w2 w' → (Below w2.heap.size w2 w' ∧ w'.cell? ⟨w.heap.size, 0, none⟩ = some (.int .i64 2) ∧ w'.cell? ⟨w.heap.size, 1, none⟩ = some (.bool fl) ∧ w'.cell? ⟨w.heap.size, 2, none⟩ = some (.int .i64 n) ∧ w'.cell? ⟨w.heap.size, 3, none⟩ = some (.string s) ∧ w'.cell? ⟨w.heap.size, 4, none⟩ = some (.slice A1 ks.length c1) ∧ w'.cell? ⟨w.heap.size, 5, none⟩ = some (.slice A2 kids.length c2)) from fun w' hb => by
      obtain ⟨q0, q1, q2, q3, q4, q5⟩ := Hp2.out.below hb
      exact ⟨hb, q0, q1, q2, q3, q4, q5⟩)
    go_wp2_with fail
    refine wp_region_held_drew (S := (fun w' => (Below w2.heap.size w2 w' ∧ w'.cell? ⟨w.heap.size, 0, none⟩ = some (.int .i64 2) ∧ w'.cell? ⟨w.heap.size, 1, none⟩ = some (.bool fl) ∧ w'.cell? ⟨w.heap.size, 2, none⟩ = some (.int .i64 n) ∧ w'.cell? ⟨w.heap.size, 3, none⟩ = some (.string s) ∧ w'.cell? ⟨w.heap.size, 4, none⟩ = some (.slice A1 ks.length c1) ∧ w'.cell? ⟨w.heap.size, 5, none⟩ = some (.slice A2 kids.length c2)))) (by kernel_rfl) ?_ (fun hHeld => ?_)
    · first | exact KS.out _ (Below.refl _ _).drew | exact KS.out _ hx4 | exact KS.out _ hx3
    refine wpAnyH_take (i := 0) (v := ?_) rfl (by kernel_rfl) (by kernel_rfl) (by kernel_rfl) (fun _ _ _ h => h) (Or.inl ⟨by rfl, ?_⟩) (by assumption) ?_
    rotate_left
    · intro w' hSw
      try dsimp only at hSw
      go_simp
      try with_reducible rfl
    try simp only [Act.put, List.setIfInBounds_toArray, List.set_cons_zero, List.set_cons_succ, List.getElem_toArray, List.getElem_cons_zero, List.getElem_cons_succ]
    refine wpAnyH_take (i := 1) (v := ?_) rfl (by kernel_rfl) (by kernel_rfl) (by kernel_rfl) (fun _ _ _ h => h) (Or.inl ⟨by rfl, ?_⟩) (by assumption) ?_
    rotate_left
    · intro w' hSw
      try dsimp only at hSw
      go_simp
      try with_reducible rfl
    try simp only [Act.put, List.setIfInBounds_toArray, List.set_cons_zero, List.set_cons_succ, List.getElem_toArray, List.getElem_cons_zero, List.getElem_cons_succ]
    refine wpAnyH_take (i := 2) (v := ?_) rfl (by kernel_rfl) (by kernel_rfl) (by kernel_rfl) (fun _ _ _ h => h) (Or.inl ⟨by rfl, ?_⟩) (by assumption) ?_
    rotate_left
    · intro w' hSw
      try dsimp only at hSw
      go_simp
      try with_reducible rfl
    try simp only [Act.put, List.setIfInBounds_toArray, List.set_cons_zero, List.set_cons_succ, List.getElem_toArray, List.getElem_cons_zero, List.getElem_cons_succ]
    refine wpAnyH_take (i := 4) (v := ?_) rfl (by kernel_rfl) (by kernel_rfl) (by kernel_rfl) (fun _ _ _ h => h) (Or.inl ⟨by rfl, ?_⟩) (by assumption) ?_
    rotate_left
    · intro w' hSw
      try dsimp only at hSw
      go_simp
      try with_reducible rfl
    try simp only [Act.put, List.setIfInBounds_toArray, List.set_cons_zero, List.set_cons_succ, List.getElem_toArray, List.getElem_cons_zero, List.getElem_cons_succ]
    refine wpAnyH_ready (rs := [3]) (by kernel_rfl) (by simp) ?_
    refine AllReadyH.cons rfl (fun K hK => ?_) ?_
    · go_simp
      go_at_call 145
      refine (HTR.out _).mono ?_
      rintro e w3 ⟨rfl, hb3⟩
      have hx3 := below_link hHeld.1 hb3 hHeld.1.size
      go_wp2_with fail
      refine hK.out _ _ ?_ (fun hHeld => ?_)
      · first | exact KS.out _ (Below.refl _ _).drew | exact KS.out _ hx4 | exact KS.out _ hx3
      clear hK K
      try simp only [Act.put, List.setIfInBounds_toArray, List.set_cons_zero, List.set_cons_succ, List.getElem_toArray, List.getElem_cons_zero, List.getElem_cons_succ]
      refine wpAnyH_ready (rs := [5]) (by kernel_rfl) (by simp) ?_
      refine AllReadyH.cons rfl (fun K hK => ?_) ?_
      · go_simp
        go_at_call 48
        refine (HSF.out _ (Hb2.out.trans (hHeld.1.mono Hb2.out.size))).mono ?_
        rintro e w4 ⟨rfl, hb4⟩
        have hx4 := below_link hHeld.1 hb4 hHeld.1.size
        go_wp2_with fail
        refine hK.out _ _ ?_ (fun hHeld => ?_)
        · first | exact KS.out _ (Below.refl _ _).drew | exact KS.out _ hx4 | exact KS.out _ hx3
        clear hK K
        try simp only [Act.put, List.setIfInBounds_toArray, List.set_cons_zero, List.set_cons_succ, List.getElem_toArray, List.getElem_cons_zero, List.getElem_cons_succ]
        refine wpAnyH_take (i := 6) (v := ?_) rfl (by kernel_rfl) (by kernel_rfl) (by kernel_rfl) (fun _ _ _ h => h) (Or.inl ⟨by rfl, ?_⟩) (by assumption) ?_
        rotate_left
        · intro w' hSw
          try dsimp only at hSw
          go_simp
          try with_reducible rfl
        try simp only [Act.put, List.setIfInBounds_toArray, List.set_cons_zero, List.set_cons_succ, List.getElem_toArray, List.getElem_cons_zero, List.getElem_cons_succ]
        refine wpAnyH_take (i := 7) (v := ?_) rfl (by kernel_rfl) (by kernel_rfl) (by kernel_rfl) (fun _ _ _ h => h) (Or.inl ⟨by rfl, ?_⟩) (by assumption) ?_
        rotate_left
        · intro w' hSw
          try dsimp only at hSw
          go_simp
          try with_reducible rfl
        try simp only [Act.put, List.setIfInBounds_toArray, List.set_cons_zero, List.set_cons_succ, List.getElem_toArray, List.getElem_cons_zero, List.getElem_cons_succ]
        refine wpAnyH_take (i := 8) (v := undef) rfl (by kernel_rfl) (by kernel_rfl) (by kernel_rfl) (fun _ _ _ h => h) (Or.inr ⟨by rfl, rfl⟩) (by assumption) ?_
        try simp only [Act.put, List.setIfInBounds_toArray, List.set_cons_zero, List.set_cons_succ, List.getElem_toArray, List.getElem_cons_zero, List.getElem_cons_succ]
        refine wpAnyH_take (i := 9) (v := undef) rfl (by kernel_rfl) (by kernel_rfl) (by kernel_rfl) (fun _ _ _ h => h) (Or.inr ⟨by rfl, rfl⟩) (by assumption) ?_
        try simp only [Act.put, List.setIfInBounds_toArray, List.set_cons_zero, List.set_cons_succ, List.getElem_toArray, List.getElem_cons_zero, List.getElem_cons_succ]
        refine wpAnyH_take (i := 10) (v := ?_) rfl (by kernel_rfl) (by kernel_rfl) (by kernel_rfl) (fun _ _ _ h => h) (Or.inl ⟨by rfl, ?_⟩) (by assumption) ?_
        rotate_left
        · intro w' hSw
          try dsimp only at hSw
          go_simp
          try with_reducible rfl
        try simp only [Act.put, List.setIfInBounds_toArray, List.set_cons_zero, List.set_cons_succ, List.getElem_toArray, List.getElem_cons_zero, List.getElem_cons_succ]
        refine wpAnyH_take (i := 11) (v := ?_) rfl (by kernel_rfl) (by kernel_rfl) (by kernel_rfl) (fun _ _ _ h => h) (Or.inl ⟨by rfl, ?_⟩) (by assumption) ?_
        rotate_left
        · intro w' hSw
          try dsimp only at hSw
          go_simp
          try with_reducible rfl
        try simp only [Act.put, List.setIfInBounds_toArray, List.set_cons_zero, List.set_cons_succ, List.getElem_toArray, List.getElem_cons_zero, List.getElem_cons_succ]
        refine wpAnyH_done (by kernel_rfl) ?_ _
        go_wp2_with fail
        go_ret
        exact ⟨by rfl, Hb2.out.trans (hHeld.1.mono Hb2.out.size)⟩
      exact AllReadyH.nil
    exact AllReadyH.nil
  | true =>
    go_wp2_with fail
    go_region_law (go_simp; first | (go_at_call 145; refine (HTR.out _).mono ?_; rintro e w3 ⟨rfl, hb3⟩; obtain ⟨q0, q1, q2, q3, q4, q5⟩ := Hp2.out.below (C0.trans (hb3.mono (Nat.le_refl _))); have B3 := B0.trans (hb3.mono B0.size)) | (go_at_call 48; refine (HSF.out _ B3).mono ?_; rintro e w4 ⟨rfl, hb4⟩; have B4 := B3.trans (hb4.mono B3.size)) | (go_at_call 49; refine (HNK.out _ B4).mono ?_; rintro e w5 ⟨rfl, hb5⟩; have B5 := B4.trans (hb5.mono B4.size)))
    all_goals
      go_wp2_with fail
      go_ret
      exact ⟨by rfl, B5⟩

set_option maxRecDepth 100000 in
set_option maxHeartbeats 8000000 in
theorem fields_3 {f : Nat} (fl : Bool) (n : Int) (s : ByteArray) (ks : List ByteArray) (kids : List T) (A1 A2 : Option Addr) (c1 c2 : Nat) (w : World) (h : LiesS w f [.int .i64 3, .bool fl, .int .i64 n, .string s, .slice A1 ks.length c1, .slice A2 kids.length c2] (row (T.mk 3 fl n s ks kids))) (hT : Tabs w) :
    Calls Tryz.prog 36 #[.agg #[.int .i64 3, .bool fl, .int .i64 n, .string s, .slice A1 ks.length c1, .slice A2 kids.length c2]] w fun e w' => e = .returned (.bool (dec (Node (T.mk 3 fl n s ks kids)))) ∧ Below w.heap.size w w' := by
  obtain ⟨B1, d1, B2, d2, e0, wk, wn, hs, hc1, hc2, hr, hks, _, _, f', hf, hk⟩ := open_tree h
  injection e0 with e0 e0'
  injection e0' with e1 e1'
  injection e1' with e2 e2'
  injection e2' with e3 e3'
  injection e3' with e4 e4'
  injection e4' with e5 e5'
  injection e4 with e6 _ e7
  injection e5 with e8 _ e9
  subst e6 e7 e8 e9
  obtain ⟨w1, hw1⟩ : ∃ w1, w1 = w.alloc (.cells #[.int .i64 3, .bool fl, .int .i64 n, .string s, .slice A1 ks.length c1, .slice A2 kids.length c2] 30) := ⟨_, rfl⟩
  have hb1 : Below w.heap.size w w1 := by rw [hw1]; exact (Below.refl _ _).alloc (Nat.le_refl _) _
  have hp : Row6 w1 w.heap.size (.int .i64 3) (.bool fl) (.int .i64 n) (.string s) (.slice A1 ks.length c1) (.slice A2 kids.length c2) := by rw [hw1]; exact Row6.of (heap_alloc_new w _)
  have HN := Lib.hid (nodeOf_3 fl n s A1 A2 ks.length c1 kids.length c2 w1)
  have HTR := Lib.hid (fun w' => tree_intNode n w')
  have HSF := Lib.hid (fun w' (hb : Below w.heap.size w w') => impl_fields (T.mk 3 false n ⟨#[]⟩ [] []) (T.mk 3 fl n s ks kids) [.int .i64 3, .bool false, .int .i64 n, .string ⟨#[]⟩, .slice none 0 0, .slice none 0 0] _ w' (lies_part (h.below hb) (wf_small (by decide) (by decide)) wn (by decide) (.inl ⟨rfl, rfl⟩) (.inl ⟨rfl, rfl⟩)) (h.below hb))
  have HNK := Lib.hid (fun w' (hb : Below w.heap.size w w') => nodeOk_3 n w' )
  rw [node_3]
  have Hw1 := Lib.hid hw1
  have Hb1 := Lib.hid hb1
  have Hp := Lib.hid hp
  clear h hT hr hks hk hf hw1 hb1 hp hs hc1 hc2 wk wn e5' e0 e1 e2 e3
  generalize sameF (T.mk 3 false n ⟨#[]⟩ [] []) (T.mk 3 fl n s ks kids) = b at HSF ⊢
  obtain ⟨p0, p1, p2, p3, p4, p5⟩ := Hp.out
  rw [Hw1.out] at p0 p1 p2 p3 p4 p5
  go_enter Tryz.func36, Tryz.ntmps36
  go_wp2_with fail
  rw [← Hw1.out]
  refine HN.out.mono ?_
  rintro e w2 ⟨rfl, hb2⟩
  have Hb2 := Lib.hid (Hb1.out.trans (hb2.mono Hb1.out.size))
  obtain ⟨q0, q1, q2, q3, q4, q5⟩ := Hp.out.below hb2
  have Hp2 := Lib.hid (Hp.out.below hb2)
  clear hb2 p0 p1 p2 p3 p4 p5 HN
  have B0 : Below w.heap.size w w2.drew := Hb2.out.trans ((Below.refl _ _).drew.mono Hb2.out.size)
  have C0 : Below w2.heap.size w2 w2.drew := (Below.refl _ _).drew
  have hinv := inv_3
  cases b with
  | false =>
    have KS := Lib.hid (show ∀ w', Below w2.heap.size w2 w' → (Below w2.heap.size w2 w' ∧ w'.cell? ⟨w.heap.size, 0, none⟩ = some (.int .i64 3) ∧ w'.cell? ⟨w.heap.size, 1, none⟩ = some (.bool fl) ∧ w'.cell? ⟨w.heap.size, 2, none⟩ = some (.int .i64 n) ∧ w'.cell? ⟨w.heap.size, 3, none⟩ = some (.string s) ∧ w'.cell? ⟨w.heap.size, 4, none⟩ = some (.slice A1 ks.length c1) ∧ w'.cell? ⟨w.heap.size, 5, none⟩ = some (.slice A2 kids.length c2)) from fun w' hb => by
      obtain ⟨q0, q1, q2, q3, q4, q5⟩ := Hp2.out.below hb
      exact ⟨hb, q0, q1, q2, q3, q4, q5⟩)
    go_wp2_with fail
    refine wp_region_held_drew (S := (fun w' => (Below w2.heap.size w2 w' ∧ w'.cell? ⟨w.heap.size, 0, none⟩ = some (.int .i64 3) ∧ w'.cell? ⟨w.heap.size, 1, none⟩ = some (.bool fl) ∧ w'.cell? ⟨w.heap.size, 2, none⟩ = some (.int .i64 n) ∧ w'.cell? ⟨w.heap.size, 3, none⟩ = some (.string s) ∧ w'.cell? ⟨w.heap.size, 4, none⟩ = some (.slice A1 ks.length c1) ∧ w'.cell? ⟨w.heap.size, 5, none⟩ = some (.slice A2 kids.length c2)))) (by kernel_rfl) ?_ (fun hHeld => ?_)
    · first | exact KS.out _ (Below.refl _ _).drew | exact KS.out _ hx4 | exact KS.out _ hx3
    refine wpAnyH_take (i := 0) (v := ?_) rfl (by kernel_rfl) (by kernel_rfl) (by kernel_rfl) (fun _ _ _ h => h) (Or.inl ⟨by rfl, ?_⟩) (by assumption) ?_
    rotate_left
    · intro w' hSw
      try dsimp only at hSw
      go_simp
      try with_reducible rfl
    try simp only [Act.put, List.setIfInBounds_toArray, List.set_cons_zero, List.set_cons_succ, List.getElem_toArray, List.getElem_cons_zero, List.getElem_cons_succ]
    refine wpAnyH_take (i := 1) (v := ?_) rfl (by kernel_rfl) (by kernel_rfl) (by kernel_rfl) (fun _ _ _ h => h) (Or.inl ⟨by rfl, ?_⟩) (by assumption) ?_
    rotate_left
    · intro w' hSw
      try dsimp only at hSw
      go_simp
      try with_reducible rfl
    try simp only [Act.put, List.setIfInBounds_toArray, List.set_cons_zero, List.set_cons_succ, List.getElem_toArray, List.getElem_cons_zero, List.getElem_cons_succ]
    refine wpAnyH_take (i := 2) (v := ?_) rfl (by kernel_rfl) (by kernel_rfl) (by kernel_rfl) (fun _ _ _ h => h) (Or.inl ⟨by rfl, ?_⟩) (by assumption) ?_
    rotate_left
    · intro w' hSw
      try dsimp only at hSw
      go_simp
      try with_reducible rfl
    try simp only [Act.put, List.setIfInBounds_toArray, List.set_cons_zero, List.set_cons_succ, List.getElem_toArray, List.getElem_cons_zero, List.getElem_cons_succ]
    refine wpAnyH_take (i := 4) (v := ?_) rfl (by kernel_rfl) (by kernel_rfl) (by kernel_rfl) (fun _ _ _ h => h) (Or.inl ⟨by rfl, ?_⟩) (by assumption) ?_
    rotate_left
    · intro w' hSw
      try dsimp only at hSw
      go_simp
      try with_reducible rfl
    try simp only [Act.put, List.setIfInBounds_toArray, List.set_cons_zero, List.set_cons_succ, List.getElem_toArray, List.getElem_cons_zero, List.getElem_cons_succ]
    refine wpAnyH_ready (rs := [3]) (by kernel_rfl) (by simp) ?_
    refine AllReadyH.cons rfl (fun K hK => ?_) ?_
    · go_simp
      go_at_call 146
      refine (HTR.out _).mono ?_
      rintro e w3 ⟨rfl, hb3⟩
      have hx3 := below_link hHeld.1 hb3 hHeld.1.size
      go_wp2_with fail
      refine hK.out _ _ ?_ (fun hHeld => ?_)
      · first | exact KS.out _ (Below.refl _ _).drew | exact KS.out _ hx4 | exact KS.out _ hx3
      clear hK K
      try simp only [Act.put, List.setIfInBounds_toArray, List.set_cons_zero, List.set_cons_succ, List.getElem_toArray, List.getElem_cons_zero, List.getElem_cons_succ]
      refine wpAnyH_ready (rs := [5]) (by kernel_rfl) (by simp) ?_
      refine AllReadyH.cons rfl (fun K hK => ?_) ?_
      · go_simp
        go_at_call 48
        refine (HSF.out _ (Hb2.out.trans (hHeld.1.mono Hb2.out.size))).mono ?_
        rintro e w4 ⟨rfl, hb4⟩
        have hx4 := below_link hHeld.1 hb4 hHeld.1.size
        go_wp2_with fail
        refine hK.out _ _ ?_ (fun hHeld => ?_)
        · first | exact KS.out _ (Below.refl _ _).drew | exact KS.out _ hx4 | exact KS.out _ hx3
        clear hK K
        try simp only [Act.put, List.setIfInBounds_toArray, List.set_cons_zero, List.set_cons_succ, List.getElem_toArray, List.getElem_cons_zero, List.getElem_cons_succ]
        refine wpAnyH_take (i := 6) (v := ?_) rfl (by kernel_rfl) (by kernel_rfl) (by kernel_rfl) (fun _ _ _ h => h) (Or.inl ⟨by rfl, ?_⟩) (by assumption) ?_
        rotate_left
        · intro w' hSw
          try dsimp only at hSw
          go_simp
          try with_reducible rfl
        try simp only [Act.put, List.setIfInBounds_toArray, List.set_cons_zero, List.set_cons_succ, List.getElem_toArray, List.getElem_cons_zero, List.getElem_cons_succ]
        refine wpAnyH_take (i := 7) (v := ?_) rfl (by kernel_rfl) (by kernel_rfl) (by kernel_rfl) (fun _ _ _ h => h) (Or.inl ⟨by rfl, ?_⟩) (by assumption) ?_
        rotate_left
        · intro w' hSw
          try dsimp only at hSw
          go_simp
          try with_reducible rfl
        try simp only [Act.put, List.setIfInBounds_toArray, List.set_cons_zero, List.set_cons_succ, List.getElem_toArray, List.getElem_cons_zero, List.getElem_cons_succ]
        refine wpAnyH_take (i := 8) (v := undef) rfl (by kernel_rfl) (by kernel_rfl) (by kernel_rfl) (fun _ _ _ h => h) (Or.inr ⟨by rfl, rfl⟩) (by assumption) ?_
        try simp only [Act.put, List.setIfInBounds_toArray, List.set_cons_zero, List.set_cons_succ, List.getElem_toArray, List.getElem_cons_zero, List.getElem_cons_succ]
        refine wpAnyH_take (i := 9) (v := undef) rfl (by kernel_rfl) (by kernel_rfl) (by kernel_rfl) (fun _ _ _ h => h) (Or.inr ⟨by rfl, rfl⟩) (by assumption) ?_
        try simp only [Act.put, List.setIfInBounds_toArray, List.set_cons_zero, List.set_cons_succ, List.getElem_toArray, List.getElem_cons_zero, List.getElem_cons_succ]
        refine wpAnyH_take (i := 10) (v := ?_) rfl (by kernel_rfl) (by kernel_rfl) (by kernel_rfl) (fun _ _ _ h => h) (Or.inl ⟨by rfl, ?_⟩) (by assumption) ?_
        rotate_left
        · intro w' hSw
          try dsimp only at hSw
          go_simp
          try with_reducible rfl
        try simp only [Act.put, List.setIfInBounds_toArray, List.set_cons_zero, List.set_cons_succ, List.getElem_toArray, List.getElem_cons_zero, List.getElem_cons_succ]
        refine wpAnyH_take (i := 11) (v := ?_) rfl (by kernel_rfl) (by kernel_rfl) (by kernel_rfl) (fun _ _ _ h => h) (Or.inl ⟨by rfl, ?_⟩) (by assumption) ?_
        rotate_left
        · intro w' hSw
          try dsimp only at hSw
          go_simp
          try with_reducible rfl
        try simp only [Act.put, List.setIfInBounds_toArray, List.set_cons_zero, List.set_cons_succ, List.getElem_toArray, List.getElem_cons_zero, List.getElem_cons_succ]
        refine wpAnyH_done (by kernel_rfl) ?_ _
        go_wp2_with fail
        go_ret
        exact ⟨by rfl, Hb2.out.trans (hHeld.1.mono Hb2.out.size)⟩
      exact AllReadyH.nil
    exact AllReadyH.nil
  | true =>
    go_wp2_with fail
    go_region_law (go_simp; first | (go_at_call 146; refine (HTR.out _).mono ?_; rintro e w3 ⟨rfl, hb3⟩; obtain ⟨q0, q1, q2, q3, q4, q5⟩ := Hp2.out.below (C0.trans (hb3.mono (Nat.le_refl _))); have B3 := B0.trans (hb3.mono B0.size)) | (go_at_call 48; refine (HSF.out _ B3).mono ?_; rintro e w4 ⟨rfl, hb4⟩; have B4 := B3.trans (hb4.mono B3.size)) | (go_at_call 49; refine (HNK.out _ B4).mono ?_; rintro e w5 ⟨rfl, hb5⟩; have B5 := B4.trans (hb5.mono B4.size)))
    all_goals
      go_wp2_with fail
      go_ret
      exact ⟨by rfl, B5⟩
end Go.Proofs.YtbfkkaafkinpmaaGreatDoor.tree
