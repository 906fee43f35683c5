/- spec.KnownKeys. -/
import Derived.Test.YtangdmjdjiddcaaDoorHasS
import Derived.Test.YtangdmjdjiddcaaDoorGA4
import Derived.Test.YtangdmjdjiddcaaDoorFaultS
import Derived.Test.YtangdmjdjiddcaaDoorGA3
namespace Go.Proofs.YtangdmjdjiddcaaDoor.field
open Go.ChangeShapes Go.WideShapes Go.ChangeAt Go.RowKit tree
set_option linter.unusedVariables false

set_option maxRecDepth 100000 in
set_option maxHeartbeats 16000000 in
theorem spec_known {f : Nat} (t : T) (p : ByteArray) (l : List ByteArray) (A : Option Addr) (c : Nat) (vs : List Value) (w : World) (h : LiesS w f vs (row t)) (hw : weight t ≤ 1048576) (hp : p.size ≤ 1048576) (hm : l.length ≤ maxLen) (hr : Rd w A l.length (scells l)) :
    Calls Tryd.prog 13 #[.agg vs.toArray, .string p, .slice A l.length c] w fun e w' => e = .returned (fv (knownF t p l)) ∧ Below w.heap.size w w' := by
  have hkeys := keys_weight t
  obtain ⟨kk, fl, n, s, ks, kids⟩ := t
  obtain ⟨A1, c1, A2, c2, rfl, wk, wn, ws, hc1, hc2, hr1, _, _, _, f', rfl, _⟩ := open_tree h
  unfold maxLen at hc2
  obtain ⟨w1, hw1⟩ : ∃ w1, w1 = (w.alloc (.cells #[.int .i64 kk, .bool fl, .int .i64 n, .string s, .slice A1 ks.length c1, .slice A2 kids.length c2] 35)).alloc (.cells #[.int .i64 0, .int .i64 0, .string ⟨#[]⟩] 31) := ⟨_, rfl⟩
  have hb1 : Below w.heap.size w w1 := by subst hw1; exact ((Below.refl _ _).alloc (Nat.le_refl _) _).alloc (by simp) _
  have h10 : w1.heap[w.heap.size]? = some (.cells #[.int .i64 kk, .bool fl, .int .i64 n, .string s, .slice A1 ks.length c1, .slice A2 kids.length c2] 35 (0, 0)) := by
    subst hw1
    rw [Below.heap_alloc _ _ _ (by simp)]
    exact heap_alloc_new w _
  have h11 : w1.heap[w.heap.size + 1]? = some (.cells #[.int .i64 0, .int .i64 0, .string ⟨#[]⟩] 31 (0, 0)) := by
    subst hw1
    have h := heap_alloc_new (w.alloc (.cells #[.int .i64 kk, .bool fl, .int .i64 n, .string s, .slice A1 ks.length c1, .slice A2 kids.length c2] 35)) (.cells #[.int .i64 0, .int .i64 0, .string ⟨#[]⟩] 31)
    simpa using h
  have HH := Lib.hid (fun x => spec_has l x A c w1 hm (hr.below hb1))
  have HP := Lib.hid (fun k w' (hk : k.size ≤ 1048576) => spec_key p k w' hp hk)
  have HF := Lib.hid (fun c q w' => spec_fault c q w')
  have H11 := Lib.hid h11
  have Hb1 := Lib.hid hb1
  have Hw1 := Lib.hid hw1
  have Hr := Lib.hid (hr1.below hb1)
  have Hks := Lib.hid (show ∀ x ∈ ks, x.size ≤ 1048576 from fun x hx => Nat.le_trans (hkeys x hx) hw)
  obtain ⟨p0, p1, p2, p3, p4, p5⟩ := Row6.of h10
  have Hrow := Lib.hid (Row6.of h10)
  rw [Hw1.out] at p0 p1 p2 p3 p4 p5
  obtain ⟨R, hR⟩ : ∃ R, knownF (.mk kk fl n s ks kids) p l = R := ⟨_, rfl⟩
  rw [hR]
  unfold knownF at hR
  have HR := Lib.hid hR
  clear h h10 h11 hb1 hw1 hR hw hm hr hr1 hkeys
  by_cases h6 : kk = 6
  case neg =>
    have hE : R = (11, p) := HR.out.symm.trans (if_pos (by simpa [T.kind] using h6))
    subst hE
    clear HR
    go_enter Tryd.func13, Tryd.ntmps13
    go_wp2_with fail
    rw [← Hw1.out]
    refine (HF.out _ _ _).mono ?_
    rintro e w5 ⟨rfl, hb5⟩
    have h51 := heap_kept hb5 (heap_lt H11.out) H11.out
    have Hb5 := Lib.hid (below_link Hb1.out hb5 Hb1.out.size)
    clear hb5
    go_wp2_with (first | (refine wpList_store_row rfl 31 _ _ rfl (w.heap.size + 1) #[.int .i64 11, .int .i64 0, .string p] rfl rfl 31 _ h51 sizeFault rfl (by simp [Value.oneCell']) ?_) | fail)
    refine bodyPost_ret (v := fv (11, p)) ?_ rfl ⟨rfl, setRow_below Hb5.out (by omega) _⟩
    exact results_cell_row rfl _ _ (w.heap.size + 1) _ _ (0, 0) _ rfl (setRow_at h51) Tryd.underlying31 rfl sizeFault
  subst h6
  have HK := Lib.hid (show knownL l p ks = R from (if_neg (by simp [T.kind])).symm.trans HR.out)
  clear HR
  go_enter Tryd.func13, Tryd.ntmps13
  go_wp2_with fail
  rw [← Hw1.out]
  clear p0 p1 p2 p3 p4 p5 Hw1
  obtain ⟨p0, p1, p2, p3, p4, p5⟩ := Hrow.out
  go_loop [7] (fun i => ∃ j : Nat, j ≤ ks.length ∧ i = .int .i64 j ∧ Hid (∀ q (hl : q < ks.length), q < j → ks[q] ∈ l)) (fun i => ks.length - (intOf i).toNat)
  case atStart => exact ⟨0, Nat.zero_le _, rfl, fun q hl hq => by omega⟩
  case round =>
    obtain ⟨j, hj, rfl, hall⟩ := hrel
    by_cases hlt : j < ks.length
    · obtain ⟨g, o, rfl, hg, hc0⟩ := Hr.out.2 (by omega)
      have q0 := hc0 j hlt _ (scells_get ks j hlt)
      by_cases he : ks[j] ∈ l
      · have hi := inL_t he
        have Hs := Lib.hid he
        clear he hc0 hg
        have HX := Lib.hid (HH.out ks[j])
        generalize ks[j] = x at q0 hi HX
        go_wp2_with fail
        refine HX.out.mono ?_
        rintro e w4 ⟨rfl, rfl⟩
        rw [hi]
        go_wp2_with fail
        go_round
        case rel => exact ⟨j + 1, by omega, by go_num, fun q hl hq => by
          by_cases e : q = j
          · subst e; exact Hs.out
          · exact hall.out q hl (by omega)⟩
        case measure => simp [intOf]; omega
      · have hi := inL_f he
        have HE := Lib.hid (HK.out.symm.trans (known_no hlt hall.out he))
        have hks := Hks.out _ (List.getElem_mem hlt)
        clear he hc0 hg
        have HX := Lib.hid (HH.out ks[j])
        generalize ks[j] = x at q0 hi HX HE hks
        have HP2 := Lib.hid (fun w' => HP.out x w' hks)
        generalize pathKey p x = at_ at HP2 HE
        have hE := HE.out
        subst hE
        clear HE HK
        go_wp2_with fail
        refine HX.out.mono ?_
        rintro e w4 ⟨rfl, rfl⟩
        rw [hi]
        go_wp2_with fail
        refine (HP2.out _).mono ?_
        rintro e w4 ⟨rfl, rfl⟩
        go_wp2_with fail
        refine (HF.out _ _ _).mono ?_
        rintro e w5 ⟨rfl, hb5⟩
        have h51 := heap_kept hb5 (heap_lt H11.out) H11.out
        have Hb5 := Lib.hid (below_link Hb1.out hb5 Hb1.out.size)
        clear hb5
        go_wp2_with (first | (refine wpList_store_row rfl 31 _ _ rfl (w.heap.size + 1) #[.int .i64 13, .int .i64 0, .string at_] rfl rfl 31 _ h51 sizeFault rfl (by simp [Value.oneCell']) ?_) | fail)
        refine bodyPost_ret (v := fv (13, at_)) ?_ rfl ⟨rfl, setRow_below Hb5.out (by omega) _⟩
        exact results_cell_row rfl _ _ (w.heap.size + 1) _ _ (0, 0) _ rfl (setRow_at h51) Tryd.underlying31 rfl sizeFault
    · obtain rfl : j = ks.length := by omega
      have hE : R = good := HK.out.symm.trans (known_all fun q hq => hall.out q hq hq)
      subst hE
      clear hall HK
      have h51 := H11.out
      go_wp2_with (first | (refine wpList_store_row rfl 31 _ _ rfl (w.heap.size + 1) #[.int .i64 0, .int .i64 0, .string ⟨#[]⟩] rfl rfl 31 _ h51 sizeFault rfl (by simp [Value.oneCell']) ?_) | fail)
      refine bodyPost_ret (v := fv good) ?_ rfl ⟨rfl, setRow_below Hb1.out (by omega) _⟩
      exact results_cell_row rfl _ _ (w.heap.size + 1) _ _ (0, 0) _ rfl (setRow_at h51) Tryd.underlying31 rfl sizeFault
end Go.Proofs.YtangdmjdjiddcaaDoor.field
