/- Merged: LawStrEq LawStrTo TrSz TrTo TrEq. -/
import Derived.Test.YtbfkkaafkinpmaaGreatDoorRows
import Derived.Test.YtbfkkaafkinpmaaGreatDoorBase
import Derived.ProofKit
import Derived.OpenShut
import Derived.OwnWalk
import Derived.Test.YtbfkkaafkinpmaaGreatDoorGTree
import Derived.Deep.WholeRow
namespace Go.Proofs.YtbfkkaafkinpmaaGreatDoor.lawStr
open Go.ChangeShapes Go.WideShapes Go.ChangeAt Go.RowKit
set_option linter.unusedVariables false

theorem eq_yes (A1 A2 : Option Addr) (n c1 c2 : Nat) (l : List ByteArray) (w : World) (hn : n ≤ maxLen) (hln : l.length = n) (h1 : Rd w A1 n (scells l)) (h2 : Rd w A2 n (scells l)) :
    Calls Tryz.prog 9 #[.slice A1 n c1, .slice A2 n c2] w fun e w' => e = .returned (.bool true) ∧ ∃ n, w' = w.drewN n := by
  unfold maxLen at hn
  have H1 := Lib.hid h1
  have H2 := Lib.hid h2
  have Hl := Lib.hid hln
  clear h1 h2 hln
  go_enter Tryz.func9, Tryz.ntmps9
  go_wp2_with fail
  go_loopw [5] (fun i wr => ∃ k : Nat, k ≤ n ∧ i = .int .i64 k ∧ ∃ q, wr = w.drewN q) (fun i _ => n - (intOf i).toNat)
  case atStart => exact ⟨0, Nat.zero_le _, rfl, 0, rfl⟩
  case round =>
    obtain ⟨k, hk, rfl, q, rfl⟩ := hrel
    by_cases hlt : k < n
    · obtain ⟨g1, o1, rfl, _, hc1⟩ := H1.out.2 (by omega)
      obtain ⟨g2, o2, rfl, _, hc2⟩ := H2.out.2 (by omega)
      have d1 : w.cell? ⟨g1, o1 + k, none⟩ = some (.string (l.getD k ByteArray.empty)) := hc1 k hlt _ (by rw [scells_get l k (by have := Hl.out; omega)]; simp [List.getD, Hl.out, hlt])
      have d2 : w.cell? ⟨g2, o2 + k, none⟩ = some (.string (l.getD k ByteArray.empty)) := hc2 k hlt _ (by rw [scells_get l k (by have := Hl.out; omega)]; simp [List.getD, Hl.out, hlt])
      clear hc1 hc2
      generalize l.getD k ByteArray.empty = x at d1 d2
      go_wp2_with fail
      go_quiet (fail)
      go_wp2_with fail
      go_roundw
      case rel => exact ⟨k + 1, by omega, by go_num, _, rfl⟩
      case measure => simp [intOf]; omega
    · go_wp2_with fail
      go_ret
      exact ⟨rfl, _, rfl⟩

end Go.Proofs.YtbfkkaafkinpmaaGreatDoor.lawStr
namespace Go.Proofs.YtbfkkaafkinpmaaGreatDoor.lawStr
open Go.ChangeShapes Go.WideShapes Go.ChangeAt Go.RowKit
set_option linter.unusedVariables false

theorem TryzinfoStr : (Tryz.prog.info? 9).map (fun i => (i.zero, i.size, i.bytes)) = some (some (.string ⟨#[]⟩), 1, 16) := by kernel_rfl

theorem to_step (xs : List Value) (l : List ByteArray) (k n : Nat) (hl : l.length = n) (hx : xs.length = n) (hk : k < n) :
    (scells (l.take k) ++ xs.drop k).set k (.string (l.getD k ⟨#[]⟩)) = scells (l.take (k + 1)) ++ xs.drop (k + 1) := by
  have hk2 : k < l.length := by omega
  rw [List.take_succ_eq_append_getElem hk2, scells_append, List.append_assoc]
  have hlen : (scells (l.take k)).length = k := by rw [scells_length, List.length_take]; omega
  rw [List.set_append_right _ _ (by omega)]
  congr 1
  rw [hlen, Nat.sub_self, List.drop_eq_getElem_cons (by omega : k < xs.length), List.set_cons_zero]
  rw [List.getD_eq_getElem?_getD, List.getElem?_eq_getElem hk2]
  rfl

theorem to_any (A : Option Addr) (n c : Nat) (l : List ByteArray) (w : World) (hn : n ≤ 1048576) (hln : l.length = n) (h : Rd w A n (scells l)) :
    Calls Tryz.prog 20 #[.slice A n c] w fun e w' => ∃ g, e = .returned (.slice (some ⟨g, 0, none⟩) n n) ∧ w'.ownsRow w.heap.size 9 1 (.slice (some ⟨g, 0, none⟩) n n) n (scells l) ∧ Below w.heap.size w w' := by
  obtain ⟨i0, hi, hz0, hz1, hz2⟩ := info_parts TryzinfoStr
  have H := Lib.hid h
  have Hl := Lib.hid hln
  clear h hln
  go_enter Tryz.func20, Tryz.ntmps20
  go_wp2_with (at_make; refine wpList_make_full _ rfl _ _ 22 rfl w.heap.size 9 i0 (.string ⟨#[]⟩) 1 Tryz.underlying22 hi hz0 hz1 .i64 .i64 (n : Int) (n : Int) n rfl rfl rfl rfl (by rw [hz2]; omega) (by unfold maxLen; omega) (by simp) ?_)
  intro w1 hown1 hg1
  have hb1 : Below w.heap.size w w1 := (Below.refl _ _).grown hg1 (Nat.le_refl _) (fun b hb => by cases hb)
  obtain ⟨xs, hxl, hown⟩ : ∃ xs : List Value, xs.length = n ∧ w1.ownsRow w.heap.size 9 1 (.slice (some ⟨w.heap.size, 0, none⟩) n n) n xs := ⟨_, by simpa using hown1.1, hown1⟩
  have Hx := Lib.hid hxl
  have Hown := Lib.hid hown
  have Hb1 := Lib.hid hb1
  clear hown1 hown hb1 hg1 hxl
  go_wp2_with fail
  go_loopw [4] (fun i wr => ∃ k : Nat, k ≤ n ∧ i = .int .i64 k ∧ wr.ownsRow w.heap.size 9 1 (.slice (some ⟨w.heap.size, 0, none⟩) n n) n (scells (l.take k) ++ xs.drop k) ∧ Below w.heap.size w wr) (fun i _ => n - (intOf i).toNat)
  case atStart => exact ⟨0, Nat.zero_le _, rfl, by simpa [scells] using Hown.out, Hb1.out⟩
  case round =>
    clear Hown Hb1
    obtain ⟨k, hk, rfl, hown, hbel⟩ := hrel
    by_cases hlt : k < n
    · have hkl : k < l.length := by have := Hl.out; omega
      obtain ⟨g, o, rfl, hg, hc0⟩ := H.out.2 (by omega)
      have hc : wr.cell? ⟨g, o + k, none⟩ = some (.string (l.getD k ⟨#[]⟩)) := (hbel.cell (p := ⟨g, o + k, none⟩) hg).trans (hc0 k hlt _ (by rw [scells_get l k hkl]; simp [List.getD, hkl]))
      have hd := hown.cellAt k (by omega)
      have hf := hown.frozenAt k
      have hln : k < (scells (l.take k) ++ xs.drop k).length := by have := hown.1; omega
      rw [List.getElem?_eq_getElem hln] at hd
      have hst := hown.stored k (.string (l.getD k ⟨#[]⟩))
      rw [to_step xs l k n Hl.out Hx.out hlt] at hst
      have hown2 := hst.1
      have hbel2 : Below w.heap.size w (wr.setCell ⟨w.heap.size, k, none⟩ (.string (l.getD k ⟨#[]⟩))) := hbel.setCell (Nat.le_refl _) _
      clear hst hown hbel hc0 hkl
      generalize (scells (l.take k) ++ xs.drop k)[k] = old at hd
      clear hln
      generalize l.getD k ⟨#[]⟩ = x at hc hown2 hbel2
      have Hown2 := Lib.hid hown2
      have Hbel2 := Lib.hid hbel2
      clear hown2 hbel2
      go_wp2_with fail
      go_roundw
      case rel => exact ⟨k + 1, by omega, by go_num, Hown2.out, Hbel2.out⟩
      case measure => simp [intOf]; omega
    · obtain rfl : k = n := by omega
      rw [List.drop_of_length_le (by have := Hx.out; omega), List.append_nil, List.take_of_length_le (by have := Hl.out; omega)] at hown
      have Hown := Lib.hid hown
      have Hbel := Lib.hid hbel
      clear hown hbel
      go_wp2_with fail
      go_ret
      exact ⟨_, rfl, Hown.out, Hbel.out⟩
end Go.Proofs.YtbfkkaafkinpmaaGreatDoor.lawStr
namespace Go.Proofs.YtbfkkaafkinpmaaGreatDoor.tree
open Go.ChangeShapes Go.WideShapes Go.ChangeAt Go.RowKit
set_option linter.unusedVariables false

/-- What is left of so many behind x: -1 if they do not do. -/
def cutW (left : Int) (x : Nat) : Int := if left < x then -1 else left - x
theorem cut_no {left : Int} {x : Nat} (h : left < x) : cutW left x = -1 := by unfold cutW; rw [if_pos h]
theorem cut_yes {left : Int} {x : Nat} (h : ¬ left < x) : cutW left x = left - x := by unfold cutW; rw [if_neg h]
/-- The bounds of left. -/
def Left (l : Int) : Prop := 0 ≤ l ∧ l ≤ 1048576

theorem sz_keys (A : Option Addr) (c : Nat) (ks : List ByteArray) (left : Int) (w : World) (hc : ks.length ≤ c) (hm : c ≤ maxLen) (hr : Rd w A ks.length (scells ks)) (hks : ∀ x ∈ ks, x.size ≤ maxLen) (hl : Left left) :
    Calls Tryz.prog 16 #[.slice A ks.length c, .int .i64 left] w fun e w' => e = .returned (.int .i64 (cutW left (ks.length + weightK ks))) ∧ w' = w := by
  unfold maxLen at hm
  unfold Left at hl
  have Hr := Lib.hid hr
  have Hks := Lib.hid hks
  clear hr hks
  by_cases h0 : left < ks.length
  · have He := Lib.hid (cut_no (show left < ((ks.length + weightK ks : Nat) : Int) by omega))
    go_enter Tryz.func16, Tryz.ntmps16
    go_wp2_with fail
    go_ret
    exact ⟨by rw [He.out]; rfl, rfl⟩
  · go_enter Tryz.func16, Tryz.ntmps16
    go_wp2_with fail
    go_loop [1, 5] (fun a i => ∃ (j : Nat) (l : Int), j ≤ ks.length ∧ i = .int .i64 j ∧ a = .int .i64 l ∧ 0 ≤ l ∧ l ≤ 1048576 ∧ Hid (l = left - ks.length - weightK (ks.take j))) (fun _ i => ks.length - (intOf i).toNat)
    case atStart => exact ⟨0, left - ks.length, Nat.zero_le _, rfl, rfl, by omega, by omega, by unfold Hid; simp [weightK]⟩
    case round =>
      obtain ⟨j, l, hj, rfl, rfl, hl0, hl1, hin⟩ := hrel
      by_cases hlt : j < ks.length
      · obtain ⟨g, o, rfl, hg, hc0⟩ := Hr.out.2 (by omega)
        have hcell := hc0 j hlt _ (scells_get ks j hlt)
        have hsz := Hks.out ks[j] (List.getElem_mem hlt)
        unfold maxLen at hsz
        have hnext : weightK (ks.take (j + 1)) = weightK (ks.take j) + ks[j].size := by
          rw [List.take_succ_eq_append_getElem hlt, weightK_append]
          simp [weightK]
        have hall : weightK ks = weightK (ks.take (j + 1)) + weightK (ks.drop (j + 1)) := by rw [← weightK_append, List.take_append_drop]
        clear hc0 hg
        by_cases h1 : l < ks[j].size
        · have He := Lib.hid (cut_no (show left < ((ks.length + weightK ks : Nat) : Int) by have := hin.out; omega))
          clear hnext hall hin
          generalize ks[j] = x at hcell hsz h1
          go_wp2_with fail
          go_ret
          exact ⟨by rw [He.out]; rfl, rfl⟩
        · have Hin := Lib.hid (show l - ks[j].size = left - ks.length - weightK (ks.take (j + 1)) by have := hin.out; omega)
          clear hnext hall hin
          generalize ks[j] = x at hcell hsz h1 Hin
          go_wp2_with fail
          go_round
          case rel => exact ⟨j + 1, l - x.size, by omega, by go_num, rfl, by omega, by omega, Hin.out⟩
          case measure => simp [intOf]; omega
      · obtain rfl : j = ks.length := by omega
        rw [List.take_of_length_le (Nat.le_refl _)] at hin
        have He := Lib.hid (cut_yes (show ¬ left < ((ks.length + weightK ks : Nat) : Int) by have := hin.out; omega))
        have Hin := Lib.hid (show left - ((ks.length + weightK ks : Nat) : Int) = l by have := hin.out; omega)
        clear hin
        go_wp2_with fail
        go_ret
        exact ⟨by rw [He.out, Hin.out]; rfl, rfl⟩

/-- At a depth. -/
def SzKids (f : Nat) : Prop := ∀ (A : Option Addr) (c : Nat) (kids : List T) (left : Int) (w : World), kids.length ≤ c → c ≤ maxLen → KidsAt w f A kids → Left left →
  Calls Tryz.prog 17 #[.slice A kids.length c, .int .i64 left] w fun e w' => e = .returned (.int .i64 (cutW left (kids.length + weights kids))) ∧ Below w.heap.size w w'
theorem sz_of {f : Nat} (hP : SzKids f) (t : T) (vs : List Value) (left : Int) (w : World) (h : LiesS w (f + 1) vs (row t)) (hl : Left left) :
    Calls Tryz.prog 5 #[.agg vs.toArray, .int .i64 left] w fun e w' => e = .returned (.int .i64 (cutW left (weight t))) ∧ Below w.heap.size w w' := by
  obtain ⟨k, fl, n, s, ks, kids⟩ := t
  obtain ⟨A1, c1, A2, c2, rfl, _, _, hs, hc1, hc2, hr, hks, hc3, hc4, f', hf, hk⟩ := open_tree h
  obtain rfl : f = f' := by omega
  clear h hf
  unfold Left at hl
  unfold maxLen at hs
  rw [weight]
  have HB := Lib.hid (Box.new 25 w [.int .i64 k, .bool fl, .int .i64 n, .string s, .slice A1 ks.length c1, .slice A2 kids.length c2])
  have HK := Lib.hid (fun w1 left (hb : Below w.heap.size w w1) hl => sz_keys A1 c1 ks left w1 hc1 hc2 (hr.below hb) hks hl)
  have HP := Lib.hid (fun w1 left (hb : Below w.heap.size w w1) hl => hP A2 c2 kids left w1 hc3 hc4 (hk.below hb) hl)
  clear hr hk hks hc1 hc2 hc3 hc4 hP
  have hc3' := HB.out.cell (j := 3) rfl
  have hc4' := HB.out.cell (j := 4) rfl
  have hc5' := HB.out.cell (j := 5) rfl
  generalize hX : ks.length + weightK ks = X at HK
  generalize hY : kids.length + weights kids = Y at HP
  have hs0 : (0 : Int) ≤ s.size := by omega
  by_cases h0 : left < s.size
  · have He := Lib.hid (cut_no (show left < ((s.size + X + Y : Nat) : Int) by omega))
    clear hX hY
    go_enter Tryz.func5, Tryz.ntmps5
    go_wp2_with fail
    go_ret
    exact ⟨by rw [He.out]; rfl, HB.out.1⟩
  have HK1 := Lib.hid (HK.out _ (left - s.size) HB.out.1 ⟨by omega, by omega⟩)
  by_cases h1 : left - s.size < X
  · have He := Lib.hid (cut_no (show left < ((s.size + X + Y : Nat) : Int) by omega))
    rw [cut_no h1] at HK1
    clear hX hY
    go_enter Tryz.func5, Tryz.ntmps5
    go_wp2_with fail
    refine HK1.out.mono ?_
    rintro e w1 ⟨rfl, rfl⟩
    go_wp2_with fail
    go_ret
    exact ⟨by rw [He.out]; rfl, HB.out.1⟩
  rw [cut_yes h1] at HK1
  have HP1 := Lib.hid (HP.out _ (left - s.size - X) HB.out.1 ⟨by omega, by omega⟩)
  by_cases h2 : left - s.size - X < Y
  · have He := Lib.hid (cut_no (show left < ((s.size + X + Y : Nat) : Int) by omega))
    rw [cut_no h2] at HP1
    clear hX hY
    go_enter Tryz.func5, Tryz.ntmps5
    go_wp2_with fail
    refine HK1.out.mono ?_
    rintro e w1 ⟨rfl, rfl⟩
    go_wp2_with fail
    refine HP1.out.mono ?_
    rintro e w1 ⟨rfl, hb1⟩
    have HB1 := Lib.hid (HB.out.below hb1)
    go_wp2_with fail
    go_ret
    exact ⟨by rw [He.out]; rfl, HB1.out.1⟩
  · have He := Lib.hid (cut_yes (show ¬ left < ((s.size + X + Y : Nat) : Int) by omega))
    have He2 := Lib.hid (show left - ((s.size + X + Y : Nat) : Int) = left - s.size - X - Y by omega)
    rw [cut_yes h2] at HP1
    clear hX hY
    go_enter Tryz.func5, Tryz.ntmps5
    go_wp2_with fail
    refine HK1.out.mono ?_
    rintro e w1 ⟨rfl, rfl⟩
    go_wp2_with fail
    refine HP1.out.mono ?_
    rintro e w1 ⟨rfl, hb1⟩
    have HB1 := Lib.hid (HB.out.below hb1)
    go_wp2_with fail
    go_ret
    exact ⟨by rw [He.out, He2.out]; rfl, HB1.out.1⟩

theorem sz_kids_step {f : Nat} (hE : ∀ (t : T) (vs : List Value) (left : Int) (w : World), LiesS w f vs (row t) → Left left →
    Calls Tryz.prog 5 #[.agg vs.toArray, .int .i64 left] w fun e w' => e = .returned (.int .i64 (cutW left (weight t))) ∧ Below w.heap.size w w') : SzKids f := by
  intro A c kids left w hc hm hk hl
  unfold maxLen at hm
  unfold Left at hl
  have Hk := Lib.hid hk
  have HE := Lib.hid hE
  clear hk hE
  by_cases h0 : left < kids.length
  · have He := Lib.hid (cut_no (show left < ((kids.length + weights kids : Nat) : Int) by omega))
    go_enter Tryz.func17, Tryz.ntmps17
    go_wp2_with fail
    go_ret
    exact ⟨by rw [He.out]; rfl, Below.refl _ _⟩
  · go_enter Tryz.func17, Tryz.ntmps17
    go_wp2_with fail
    go_loopw [1, 5] (fun a i wr => ∃ (j : Nat) (l : Int), j ≤ kids.length ∧ i = .int .i64 j ∧ a = .int .i64 l ∧ 0 ≤ l ∧ l ≤ 1048576 ∧ Hid (l = left - kids.length - weights (kids.take j)) ∧ Below w.heap.size w wr) (fun _ i _ => kids.length - (intOf i).toNat)
    case atStart => exact ⟨0, left - kids.length, Nat.zero_le _, rfl, rfl, by omega, by omega, by unfold Hid; simp [weights], Below.refl _ _⟩
    case round =>
      obtain ⟨j, l, hj, rfl, rfl, hl0, hl1, hin, hbel⟩ := hrel
      by_cases hlt : j < kids.length
      · obtain ⟨g, o, rfl, hg, hkid⟩ := (Hk.out.below hbel) (by omega)
        obtain ⟨u0, u1, u2, u3, u4, u5, ⟨q0, q1, q2, q3, q4, q5⟩, hls⟩ := hkid j kids[j] (List.getElem?_eq_getElem hlt)
        have HC := Lib.hid (HE.out kids[j] _ l wr hls ⟨hl0, hl1⟩)
        have hnext : weights (kids.take (j + 1)) = weights (kids.take j) + weight kids[j] := by
          rw [List.take_succ_eq_append_getElem hlt, weights_append]
          simp [weights]
        have hall : weights kids = weights (kids.take (j + 1)) + weights (kids.drop (j + 1)) := by rw [← weights_append, List.take_append_drop]
        have Hbel := Lib.hid hbel
        clear hkid hls hbel hg
        by_cases h1 : l < weight kids[j]
        · have He := Lib.hid (cut_no (show left < ((kids.length + weights kids : Nat) : Int) by have := hin.out; omega))
          rw [cut_no h1] at HC
          clear hnext hall hin h1
          go_wp2_with fail
          refine HC.out.mono ?_
          rintro e w1 ⟨rfl, hb1⟩
          have Hbel1 := Lib.hid (Hbel.out.trans (hb1.mono Hbel.out.size))
          clear hb1 q0 q1 q2 q3 q4 q5
          go_wp2_with fail
          go_ret
          exact ⟨by rw [He.out]; rfl, Hbel1.out⟩
        · have Hin := Lib.hid (show l - weight kids[j] = left - kids.length - weights (kids.take (j + 1)) by have := hin.out; omega)
          rw [cut_yes h1] at HC
          clear hnext hall hin
          generalize weight kids[j] = x at HC h1 Hin
          go_wp2_with fail
          refine HC.out.mono ?_
          rintro e w1 ⟨rfl, hb1⟩
          have Hbel1 := Lib.hid (Hbel.out.trans (hb1.mono Hbel.out.size))
          clear hb1 q0 q1 q2 q3 q4 q5
          go_wp2_with fail
          go_roundw
          case rel => exact ⟨j + 1, l - x, by omega, by go_num, rfl, by omega, by omega, Hin.out, Hbel1.out⟩
          case measure => simp [intOf]; omega
      · obtain rfl : j = kids.length := by omega
        rw [List.take_of_length_le (Nat.le_refl _)] at hin
        have He := Lib.hid (cut_yes (show ¬ left < ((kids.length + weights kids : Nat) : Int) by have := hin.out; omega))
        have Hin := Lib.hid (show left - ((kids.length + weights kids : Nat) : Int) = l by have := hin.out; omega)
        have Hbel := Lib.hid hbel
        clear hin hbel
        go_wp2_with fail
        go_ret
        exact ⟨by rw [He.out, Hin.out]; rfl, Hbel.out⟩
theorem sz_kids : ∀ f, SzKids f
  | 0 => sz_kids_step (fun t vs left w h => by
      obtain ⟨k, fl, n, s, ks, kids⟩ := t
      obtain ⟨_, _, _, _, _, _, _, _, _, _, _, _, _, _, f', hf, _⟩ := open_tree h
      omega)
  | f + 1 => sz_kids_step (fun t vs left w h hl => sz_of (sz_kids f) t vs left w h hl)
/-- szTree of a tree that lies in memory. -/
theorem sz_tree {f : Nat} (t : T) (vs : List Value) (left : Int) (w : World) (h : LiesS w f vs (row t)) (hl : Left left) :
    Calls Tryz.prog 5 #[.agg vs.toArray, .int .i64 left] w fun e w' => e = .returned (.int .i64 (cutW left (weight t))) ∧ Below w.heap.size w w' :=
  sz_of (sz_kids f) t vs left w (h.deeper (Nat.le_succ f)) hl
end Go.Proofs.YtbfkkaafkinpmaaGreatDoor.tree
namespace Go.Proofs.YtbfkkaafkinpmaaGreatDoor.tree
open Go.ChangeShapes Go.WideShapes Go.ChangeAt Go.RowKit
set_option linter.unusedVariables false

theorem tree_size : (Tryz.prog.info? 30).map (·.size) = some 6 := by kernel_rfl
theorem tree_one (k : Int) (fl : Bool) (n : Int) (s : ByteArray) (A1 A2 : Option Addr) (n1 c1 n2 c2 : Nat) : (#[.int .i64 k, .bool fl, .int .i64 n, .string s, .slice A1 n1 c1, .slice A2 n2 c2] : Array Value).all (·.oneCell') = true := by simp [Value.oneCell']
/-- At a depth. -/
def ToKids (f : Nat) : Prop := ∀ (A : Option Addr) (c : Nat) (kids : List T) (w : World), kids.length ≤ c → c ≤ maxLen → KidsAt w f A kids → kids.length + weights kids ≤ 1048576 →
  Calls Tryz.prog 21 #[.slice A kids.length c] w fun e w' => ∃ A' c', e = .returned (.slice A' kids.length c') ∧ OwnRow w' w.heap.size (f + 2) 30 6 (.slice A' kids.length c') kids.length (rows kids) ∧ Below w.heap.size w w'
def TreeOut (B f : Nat) (t : T) (e : Ending) (w' : World) : Prop := ∃ us F, e = .returned (.agg us.toArray) ∧ OwnS w' B f us (row t) F ∧ F.Nodup

theorem to_of {f : Nat} (hP : ToKids f) (t : T) (vs : List Value) (w : World) (h : LiesS w (f + 1) vs (row t)) (hw : weight t ≤ 1048576) :
    Calls Tryz.prog 7 #[.agg vs.toArray] w fun e w' => TreeOut w.heap.size (f + 3) t e w' ∧ Below w.heap.size w w' := by
  obtain ⟨k, fl, n, s, ks, kids⟩ := t
  obtain ⟨A1, c1, A2, c2, rfl, wk, wn, hs, hc1, hc2, hr, hks, hc3, hc4, f', hf, hk⟩ := open_tree h
  obtain rfl : f = f' := by omega
  clear h hf
  rw [weight] at hw
  obtain ⟨w1, hw1⟩ : ∃ w1, w1 = ((w.alloc (.cells #[.int .i64 k, .bool fl, .int .i64 n, .string s, .slice A1 ks.length c1, .slice A2 kids.length c2] 25)).alloc (.cells #[.int .i64 0, .bool false, .int .i64 0, .string ⟨#[]⟩, .slice none 0 0, .slice none 0 0] 30)).alloc (.cells #[.int .i64 k, .bool fl, .int .i64 n, .string s, .slice none 0 0, .slice none 0 0] 30) := ⟨_, rfl⟩
  have hsz : w1.heap.size = w.heap.size + 3 := by subst hw1; simp
  have hb1 : Below w.heap.size w w1 := by subst hw1; exact (((Below.refl _ _).alloc (Nat.le_refl _) _).alloc (by simp) _).alloc (by simp; omega) _
  have h10 : w1.heap[w.heap.size]? = some (.cells #[.int .i64 k, .bool fl, .int .i64 n, .string s, .slice A1 ks.length c1, .slice A2 kids.length c2] 25 (0, 0)) := by
    subst hw1
    rw [Below.heap_alloc _ _ _ (by simp; omega), Below.heap_alloc _ _ _ (by simp)]
    exact heap_alloc_new w _
  have h11 : w1.heap[w.heap.size + 1]? = some (.cells #[.int .i64 0, .bool false, .int .i64 0, .string ⟨#[]⟩, .slice none 0 0, .slice none 0 0] 30 (0, 0)) := by
    subst hw1
    rw [Below.heap_alloc _ _ _ (by simp)]
    have h := heap_alloc_new (w.alloc (.cells #[.int .i64 k, .bool fl, .int .i64 n, .string s, .slice A1 ks.length c1, .slice A2 kids.length c2] 25)) (.cells #[.int .i64 0, .bool false, .int .i64 0, .string ⟨#[]⟩, .slice none 0 0, .slice none 0 0] 30)
    simpa using h
  have h12 : w1.heap[w.heap.size + 2]? = some (.cells #[.int .i64 k, .bool fl, .int .i64 n, .string s, .slice none 0 0, .slice none 0 0] 30 (0, 0)) := by
    subst hw1
    have h := heap_alloc_new ((w.alloc (.cells #[.int .i64 k, .bool fl, .int .i64 n, .string s, .slice A1 ks.length c1, .slice A2 kids.length c2] 25)).alloc (.cells #[.int .i64 0, .bool false, .int .i64 0, .string ⟨#[]⟩, .slice none 0 0, .slice none 0 0] 30)) (.cells #[.int .i64 k, .bool fl, .int .i64 n, .string s, .slice none 0 0, .slice none 0 0] 30)
    simpa using h
  have HS := Lib.hid (lawStr.to_any A1 ks.length c1 ks w1 (by omega) rfl (hr.below hb1))
  have HP := Lib.hid (fun w2 (hb : Below w.heap.size w w2) => hP A2 c2 kids w2 hc3 hc4 (hk.below hb) (by omega))
  have Hw := Lib.hid (show (Lit.int .i64 k).wf = true ∧ (Lit.int .i64 n).wf = true ∧ s.size ≤ maxLen ∧ ∀ x ∈ ks, x.size ≤ maxLen from ⟨wk, wn, hs, hks⟩)
  have H10 := Lib.hid h10
  have H11 := Lib.hid h11
  have H12 := Lib.hid h12
  have Hb1 := Lib.hid hb1
  have Hsz := Lib.hid hsz
  have Hw1 := Lib.hid hw1
  clear hr hks hk hP hc1 hc2 hc3 hc4 hw wk wn hs h10 h11 h12 hb1 hsz hw1
  go_enter Tryz.func7, Tryz.ntmps7
  go_wp2_with fail
  rw [← Hw1.out]
  refine HS.out.mono ?_
  rintro e w2 ⟨g1, rfl, hown1, hb2⟩
  have Hown1 := Lib.hid (ownRow_strs (f := f + 1) hown1 Hw.out.2.2.2)
  have h20 := heap_kept hb2 (by rw [Hsz.out]; omega) H10.out
  have h21 := heap_kept hb2 (by rw [Hsz.out]; omega) H11.out
  have h22 := heap_kept hb2 (by rw [Hsz.out]; omega) H12.out
  have Hb2 := Lib.hid (Hb1.out.trans (hb2.mono Hb1.out.size))
  have p4 : w2.cell? ⟨w.heap.size + 2, 4, none⟩ = some (.slice none 0 0) := by rw [cell_of_row w2 _ 4 _ _ _ h22]; rfl
  have f4 := frozen_of_row w2 _ 4 _ _ h22
  have h30 : (w2.setCell ⟨w.heap.size + 2, 4, none⟩ (.slice (some ⟨g1, 0, none⟩) ks.length ks.length)).heap[w.heap.size]? = _ := (Below.heap_setCell _ _ _ _ (by show w.heap.size ≠ w.heap.size + 2; omega)).trans h20
  have h31 : (w2.setCell ⟨w.heap.size + 2, 4, none⟩ (.slice (some ⟨g1, 0, none⟩) ks.length ks.length)).heap[w.heap.size + 1]? = _ := (Below.heap_setCell _ _ _ _ (by show w.heap.size + 1 ≠ w.heap.size + 2; omega)).trans h21
  have h32 : (w2.setCell ⟨w.heap.size + 2, 4, none⟩ (.slice (some ⟨g1, 0, none⟩) ks.length ks.length)).heap[w.heap.size + 2]? = some (.cells #[.int .i64 k, .bool fl, .int .i64 n, .string s, .slice (some ⟨g1, 0, none⟩) ks.length ks.length, .slice none 0 0] 30 (0, 0)) := heap_setCell_same _ _ _ _ _ _ h22
  have p5 : (w2.setCell ⟨w.heap.size + 2, 4, none⟩ (.slice (some ⟨g1, 0, none⟩) ks.length ks.length)).cell? ⟨w.heap.size, 5, none⟩ = some (.slice A2 kids.length c2) := by rw [cell_of_row _ _ 5 _ _ _ h30]; rfl
  have hb3 : Below w.heap.size w (w2.setCell ⟨w.heap.size + 2, 4, none⟩ (.slice (some ⟨g1, 0, none⟩) ks.length ks.length)) := Hb2.out.setCell (by show w.heap.size ≤ w.heap.size + 2; omega) _
  have hor3 : OwnRow (w2.setCell ⟨w.heap.size + 2, 4, none⟩ (.slice (some ⟨g1, 0, none⟩) ks.length ks.length)) w1.heap.size (f + 2) 9 1 (.slice (some ⟨g1, 0, none⟩) ks.length ks.length) ks.length (ks.map C.str) :=
    own_row_setCell Hown1.out (by show w.heap.size + 2 < w1.heap.size; rw [Hsz.out]; omega)
  have HP3 := Lib.hid (HP.out _ hb3)
  have H31 := Lib.hid h31
  have H32 := Lib.hid h32
  have Hb3 := Lib.hid hb3
  obtain ⟨F1, hok, nd1, rg1⟩ := hor3.own
  have Hok := Lib.hid hok
  have Hn1 := Lib.hid nd1
  have Hr1 := Lib.hid rg1
  have Hs3 := Lib.hid (show w1.heap.size ≤ (w2.setCell ⟨w.heap.size + 2, 4, none⟩ (.slice (some ⟨g1, 0, none⟩) ks.length ks.length)).heap.size by simpa [World.setCell] using hb2.size)
  clear HS HP hown1 hb2 h20 h21 h22 h30 h31 h32 hb3 hor3 hok nd1 rg1 Hown1 H10 H11 H12 Hb1 Hw1 Hb2
  go_wp2_with fail
  generalize w2.setCell ⟨w.heap.size + 2, 4, none⟩ (.slice (some ⟨g1, 0, none⟩) ks.length ks.length) = w3 at *
  refine HP3.out.mono ?_
  rintro e w4 ⟨A', c', rfl, hown4, hb4⟩
  have h41 := heap_kept hb4 (heap_lt H31.out) H31.out
  have h42 := heap_kept hb4 (heap_lt H32.out) H32.out
  obtain ⟨F2, hok2, nd2, rg2⟩ := hown4.own
  have Hok4 := Lib.hid (Hok.out.below hb4)
  have Hb4 := Lib.hid (Hb3.out.trans (hb4.mono Hb3.out.size))
  have p6 : w4.cell? ⟨w.heap.size + 2, 5, none⟩ = some (.slice none 0 0) := by rw [cell_of_row w4 _ 5 _ _ _ h42]; rfl
  have f6 := frozen_of_row w4 _ 5 _ _ h42
  have h51 : (w4.setCell ⟨w.heap.size + 2, 5, none⟩ (.slice A' kids.length c')).heap[w.heap.size + 1]? = _ := (Below.heap_setCell _ _ _ _ (by show w.heap.size + 1 ≠ w.heap.size + 2; omega)).trans h41
  have h52 : (w4.setCell ⟨w.heap.size + 2, 5, none⟩ (.slice A' kids.length c')).heap[w.heap.size + 2]? = some (.cells #[.int .i64 k, .bool fl, .int .i64 n, .string s, .slice (some ⟨g1, 0, none⟩) ks.length ks.length, .slice A' kids.length c'] 30 (0, 0)) := heap_setCell_same _ _ _ _ _ _ h42
  have Hb5 := Lib.hid (show Below w.heap.size w (w4.setCell ⟨w.heap.size + 2, 5, none⟩ (.slice A' kids.length c')) from Hb4.out.setCell (by show w.heap.size ≤ w.heap.size + 2; omega) _)
  have hlt3 : w.heap.size + 2 < w3.heap.size := heap_lt H32.out
  have Hok5 := Lib.hid (Hok4.out.setCell_low (o := 5) (u := .slice A' kids.length c') (show w.heap.size + 2 < w1.heap.size by rw [Hsz.out]; omega))
  have Hkid5 := Lib.hid (hok2.setCell_low (o := 5) (u := .slice A' kids.length c') hlt3)
  have Hd5 := Lib.hid (show ∀ x ∈ F1, x ∉ F2 from fun x hx hy => by have h1 := (Hr1.out x hx).2; have h2 := (rg2 x hy).1; omega)
  have Hn2 := Lib.hid nd2
  have Hs5 := Lib.hid (Nat.le_trans Hs3.out hb4.size)
  clear hown4 hb4 HP3 h41 h42 H31 H32 Hb3 Hok Hok4 hok2 nd2 rg2 Hb4 p4 p5 f4
  have h51' := h51
  have h52' := h52
  clear h51 h52
  generalize hw5 : w4.setCell ⟨w.heap.size + 2, 5, none⟩ (.slice A' kids.length c') = w5 at *
  have H51 := Lib.hid h51'
  go_wp2_with (first | (refine wpList_load_row rfl 30 _ rfl (w.heap.size + 2) rfl 30 #[.int .i64 k, .bool fl, .int .i64 n, .string s, .slice (some ⟨g1, 0, none⟩) ks.length ks.length, .slice A' kids.length c'] (0, 0) _ h52' Tryz.underlying30 rfl tree_size ?_) | (refine wpList_store_row rfl 30 _ _ rfl (w.heap.size + 1) #[.int .i64 k, .bool fl, .int .i64 n, .string s, .slice (some ⟨g1, 0, none⟩) ks.length ks.length, .slice A' kids.length c'] rfl rfl 30 _ h51' tree_size rfl (tree_one _ _ _ _ _ _ _ _ _ _) ?_) | fail)
  have Hok6 := (Hok5.out.setRow_low (c := #[.int .i64 k, .bool fl, .int .i64 n, .string s, .slice (some ⟨g1, 0, none⟩) ks.length ks.length, .slice A' kids.length c']) (show w.heap.size + 1 < w1.heap.size by rw [Hsz.out]; omega)).lower (B' := w.heap.size) (by rw [Hsz.out]; omega)
  have Hkid6 := (Hkid5.out.setRow_low (c := #[.int .i64 k, .bool fl, .int .i64 n, .string s, .slice (some ⟨g1, 0, none⟩) ks.length ks.length, .slice A' kids.length c']) (show w.heap.size + 1 < w3.heap.size by omega)).lower (B' := w.heap.size) (by omega)
  obtain ⟨F, ho, hnd, _⟩ := own_tree (fl := fl) Hw.out.1 Hw.out.2.1 Hw.out.2.2.1 Hok6 Hkid6 Hn1.out Hn2.out Hd5.out
  refine bodyPost_ret (v := .agg #[.int .i64 k, .bool fl, .int .i64 n, .string s, .slice (some ⟨g1, 0, none⟩) ks.length ks.length, .slice A' kids.length c']) ?_ rfl ⟨⟨_, F, rfl, ho, hnd⟩, setRow_below Hb5.out (by omega) _⟩
  exact results_cell_row rfl _ _ (w.heap.size + 1) _ _ (0, 0) _ rfl (setRow_at H51.out) Tryz.underlying30 rfl tree_size

theorem TryzinfoTree : (Tryz.prog.info? 30).map (fun i => (i.zero, i.size, i.bytes)) = some (some (.agg #[.int .i64 0, .bool false, .int .i64 0, .string ⟨#[]⟩, .slice none 0 0, .slice none 0 0]), 6, 88) := by kernel_rfl

set_option maxRecDepth 100000 in
theorem to_kids_step {f : Nat} (hE : ∀ (t : T) (vs : List Value) (w : World), LiesS w f vs (row t) → weight t ≤ 1048576 →
    Calls Tryz.prog 7 #[.agg vs.toArray] w fun e w' => TreeOut w.heap.size (f + 2) t e w' ∧ Below w.heap.size w w') : ToKids f := by
  intro A c kids w hc hm hk hw
  obtain ⟨i0, hi, hz0, hz1, hz2⟩ := info_parts TryzinfoTree
  have Hk := Lib.hid hk
  have HE := Lib.hid hE
  clear hk hE
  unfold maxLen at hm
  go_enter Tryz.func21, Tryz.ntmps21
  go_wp2_with (at_make; refine wpList_make_full _ rfl _ _ 28 rfl w.heap.size 30 i0 _ 6 Tryz.underlying28 hi hz0 hz1 .i64 .i64 (kids.length : Int) (kids.length : Int) kids.length rfl rfl rfl rfl (by rw [hz2]; omega) (by unfold maxLen; omega) (by simp) ?_)
  intro w1 hown1 hg1
  have hb1 : Below w.heap.size w w1 := (Below.refl _ _).grown hg1 (Nat.le_refl _) (fun b hb => by cases hb)
  obtain ⟨xs, hown⟩ : ∃ xs : List Value, w1.ownsRow w.heap.size 30 6 (.slice (some ⟨w.heap.size, 0, none⟩) kids.length kids.length) kids.length xs := ⟨_, hown1⟩
  have Hown := Lib.hid hown
  have Hb1 := Lib.hid hb1
  clear hown1 hown hb1 hg1
  go_wp2_with fail
  go_loopw [4] (fun i wr => ∃ (k : Nat) (xs : List Value) (F : List Nat), k ≤ kids.length ∧ i = .int .i64 k ∧ wr.ownsRow w.heap.size 30 6 (.slice (some ⟨w.heap.size, 0, none⟩) kids.length kids.length) kids.length xs ∧
    OwnS wr w.heap.size (f + 2) (xs.take (k * 6)) (rows (kids.take k)) F ∧ F.Nodup ∧ (∀ x ∈ F, x ≠ w.heap.size) ∧ Below w.heap.size w wr) (fun i _ => kids.length - (intOf i).toNat)
  case atStart => exact ⟨0, xs, [], Nat.zero_le _, rfl, Hown.out, by simpa [rows] using OwnS.nil, List.nodup_nil, (fun x hx => by cases hx), Hb1.out⟩
  case round =>
    clear Hown Hb1 xs
    obtain ⟨k, xs, F, hk, rfl, hown, ho, hnd, hne, hbel⟩ := hrel
    by_cases hlt : k < kids.length
    · obtain ⟨g, o, rfl, hg, hkid⟩ := (Hk.out.below hbel) (by omega)
      obtain ⟨u0, u1, u2, u3, u4, u5, ⟨q0, q1, q2, q3, q4, q5⟩, hls⟩ := hkid k kids[k] (List.getElem?_eq_getElem hlt)
      have hwk : weight kids[k] ≤ 1048576 := by
        have h1 : weights kids = weights (kids.take (k + 1)) + weights (kids.drop (k + 1)) := by rw [← weights_append, List.take_append_drop]
        rw [List.take_succ_eq_append_getElem hlt, weights_append] at h1
        have h2 : weights [kids[k]] = weight kids[k] := by simp [weights]
        omega
      have hr1 : rows (kids.take (k + 1)) = rows (kids.take k) ++ row kids[k] := by
        rw [List.take_succ_eq_append_getElem hlt, rows_append]
        simp [rows]
      have Hr1 := Lib.hid hr1
      have HC := Lib.hid (HE.out kids[k] _ wr hls hwk)
      have Hown := Lib.hid hown
      have Ho := Lib.hid ho
      have Hbel := Lib.hid hbel
      have hlb : w.heap.size < wr.heap.size := (hown.lt w.heap.size rfl).2
      have Hlb := Lib.hid hlb
      clear hkid hls hg hwk hr1 hown ho hbel hlb
      generalize kids[k] = x at HC Hr1
      go_wp2_with fail
      refine HC.out.mono ?_
      rintro e w2 ⟨⟨us, G, rfl, hoG, hnG⟩, hb2⟩
      have hlen : us.length = 6 := by rw [hoG.1, row_length]
      have hown2 := own_below' Hown.out hb2
      have ho2 := Ho.out.below hb2
      have hthere := own_there hown2 (k * 6) us.toArray.size (by simp [hlen]; omega)
      have hone := hoG.one
      have hsize : (Tryz.prog.info? 30).map (·.size) = some us.toArray.size := by rw [List.size_toArray, hlen]; exact tree_size
      have Hfill := Lib.hid (own_fill hown2 hlt hlen ho2 hnd hne (hoG.lower (Nat.le_trans Hbel.out.size (Nat.le_refl _))) hnG (fun y hy hyG => by have h1 := (Ho.out.range y hy).2; have h2 := (hoG.range y hyG).1; omega) (fun y hy => by have h1 := (hoG.range y hy).1; have h2 := Hlb.out; omega) rfl)
      have Hbel2 := Lib.hid (Hbel.out.trans (hb2.mono Hbel.out.size))
      clear HC hoG hnG hb2 hown2 ho2 Ho hnd hne Hown Hbel q0 q1 q2 q3 q4 q5
      go_wp2_with (first | (refine Go.wpList_store_mid rfl 30 _ _ rfl w.heap.size (k * 6) us.toArray rfl rfl hthere hsize hone ?_) | fail)
      have hf := Hfill.out
      rw [← Hr1.out] at hf
      have hbel3 : Below w.heap.size w (w2.setCells w.heap.size (k * 6) us) := Hbel2.out.grown hf.2.2.2.2 Hbel2.out.size (fun b hb => by injection hb with hb; omega)
      have HF := Lib.hid hf
      have Hbel3 := Lib.hid hbel3
      clear hf hbel3 Hfill hthere hone hsize
      go_wp2_with fail
      go_roundw
      case rel => exact ⟨k + 1, _, _, by omega, by go_num, HF.out.1, HF.out.2.1, HF.out.2.2.1, HF.out.2.2.2.1, Hbel3.out⟩
      case measure => simp [intOf]; omega
    · obtain rfl : k = kids.length := by omega
      rw [List.take_of_length_le (Nat.le_refl _)] at ho
      have HR := Lib.hid (own_filled hown (by rw [rows_length]) ho hnd hne)
      have Hbel := Lib.hid hbel
      clear hown ho hbel
      go_wp2_with fail
      go_ret
      exact ⟨_, _, rfl, HR.out, Hbel.out⟩
theorem to_kids : ∀ f, ToKids f
  | 0 => to_kids_step (fun t vs w h => by
      obtain ⟨k, fl, n, s, ks, kids⟩ := t
      obtain ⟨_, _, _, _, _, _, _, _, _, _, _, _, _, _, f', hf, _⟩ := open_tree h
      omega)
  | f + 1 => to_kids_step (fun t vs w h hw => to_of (to_kids f) t vs w h hw)
/-- toTree of a tree that lies in memory. -/
theorem to_tree {f : Nat} (t : T) (vs : List Value) (w : World) (h : LiesS w f vs (row t)) (hw : weight t ≤ 1048576) :
    Calls Tryz.prog 7 #[.agg vs.toArray] w fun e w' => TreeOut w.heap.size (f + 3) t e w' ∧ Below w.heap.size w w' :=
  to_of (to_kids f) t vs w (h.deeper (Nat.le_succ f)) hw
end Go.Proofs.YtbfkkaafkinpmaaGreatDoor.tree
namespace Go.Proofs.YtbfkkaafkinpmaaGreatDoor.tree
open Go.ChangeShapes Go.WideShapes Go.ChangeAt Go.RowKit
set_option linter.unusedVariables false

/-- At a depth. -/
def EqKids (f : Nat) : Prop := ∀ (A1 A2 : Option Addr) (c1 c2 : Nat) (kids : List T) (w : World), kids.length ≤ c1 → c1 ≤ maxLen → kids.length ≤ c2 → c2 ≤ maxLen → KidsAt w f A1 kids → KidsAt w f A2 kids →
  Calls Tryz.prog 24 #[.slice A1 kids.length c1, .slice A2 kids.length c2] w fun e w' => e = .returned (.bool true) ∧ Below w.heap.size w w'
theorem eq_of {f : Nat} (hP : EqKids f) (t : T) (vs us : List Value) (w : World) (h1 : LiesS w (f + 1) vs (row t)) (h2 : LiesS w (f + 1) us (row t)) :
    Calls Tryz.prog 10 #[.agg vs.toArray, .agg us.toArray] w fun e w' => e = .returned (.bool true) ∧ Below w.heap.size w w' := by
  obtain ⟨k, fl, n, s, ks, kids⟩ := t
  obtain ⟨A1, c1, A2, c2, rfl, _, _, hs, hc1, hc2, hr, hks, hc3, hc4, f', hf, hk⟩ := open_tree h1
  obtain rfl : f = f' := by omega
  obtain ⟨B1, d1, B2, d2, rfl, _, _, _, hd1, hd2, hr', hks', hd3, hd4, f', hf, hk'⟩ := open_tree h2
  obtain rfl : f = f' := by omega
  clear h1 h2 hf
  have HB1 := Lib.hid (Box.new 30 w [.int .i64 k, .bool fl, .int .i64 n, .string s, .slice A1 ks.length c1, .slice A2 kids.length c2])
  have HB2 := Lib.hid (HB1.out.below ((Below.refl _ _).alloc (Nat.le_refl _) (.cells #[.int .i64 k, .bool fl, .int .i64 n, .string s, .slice B1 ks.length d1, .slice B2 kids.length d2] 30)))
  have HB3 := Lib.hid (Box.new 30 (w.alloc (.cells #[.int .i64 k, .bool fl, .int .i64 n, .string s, .slice A1 ks.length c1, .slice A2 kids.length c2] 30)) [.int .i64 k, .bool fl, .int .i64 n, .string s, .slice B1 ks.length d1, .slice B2 kids.length d2])
  have hsz : (w.alloc (.cells #[.int .i64 k, .bool fl, .int .i64 n, .string s, .slice A1 ks.length c1, .slice A2 kids.length c2] 30)).heap.size = w.heap.size + 1 := by simp
  have HE := Lib.hid (fun w1 (hb : Below w.heap.size w w1) => lawStr.eq_yes A1 B1 ks.length c1 d1 ks w1 (by omega) rfl (hr.below hb) (hr'.below hb))
  have HK := Lib.hid (fun w1 (hb : Below w.heap.size w w1) => hP A2 B2 c2 d2 kids w1 hc3 hc4 hd3 hd4 (hk.below hb) (hk'.below hb))
  have p0 := HB2.out.cell (j := 0) rfl
  have p1 := HB2.out.cell (j := 1) rfl
  have p2 := HB2.out.cell (j := 2) rfl
  have p3 := HB2.out.cell (j := 3) rfl
  have p4 := HB2.out.cell (j := 4) rfl
  have p5 := HB2.out.cell (j := 5) rfl
  have q0 := HB3.out.cell (j := 0) rfl
  have q1 := HB3.out.cell (j := 1) rfl
  have q2 := HB3.out.cell (j := 2) rfl
  have q3 := HB3.out.cell (j := 3) rfl
  have q4 := HB3.out.cell (j := 4) rfl
  have q5 := HB3.out.cell (j := 5) rfl
  rw [hsz] at q0 q1 q2 q3 q4 q5
  have hq := HB3.out.2
  have hbb := HB2.out.1
  have Hp := Lib.hid HB2.out.2
  rw [hsz] at hq
  have Hq := Lib.hid hq
  clear hr hr' hks hks' hk hk' hP hc1 hc2 hc3 hc4 hd1 hd2 hd3 hd4 HB1 HB3 hq
  have Hbb := Lib.hid hbb
  clear hbb HB2
  go_enter Tryz.func10, Tryz.ntmps10
  go_wp2_with fail
  refine (HE.out _ Hbb.out).mono ?_
  rintro e w1 ⟨rfl, q, rfl⟩
  go_wp2_with fail
  refine (HK.out _ (below_drewN Hbb.out q)).mono ?_
  rintro e w1 ⟨rfl, hb1⟩
  have Hb1 := Lib.hid ((below_drewN Hbb.out q).trans (hb1.mono (below_drewN Hbb.out q).size))
  clear hb1
  go_wp2_with fail
  go_ret
  exact ⟨rfl, Hb1.out⟩
theorem eq_kids_step {f : Nat} (hE : ∀ (t : T) (vs us : List Value) (w : World), LiesS w f vs (row t) → LiesS w f us (row t) →
    Calls Tryz.prog 10 #[.agg vs.toArray, .agg us.toArray] w fun e w' => e = .returned (.bool true) ∧ Below w.heap.size w w') : EqKids f := by
  intro A1 A2 c1 c2 kids w hc1 hm1 hc2 hm2 hk1 hk2
  unfold maxLen at hm1 hm2
  have Hk1 := Lib.hid hk1
  have Hk2 := Lib.hid hk2
  have HE := Lib.hid hE
  clear hk1 hk2 hE
  go_enter Tryz.func24, Tryz.ntmps24
  go_wp2_with fail
  go_loopw [5] (fun i wr => ∃ (j : Nat), j ≤ kids.length ∧ i = .int .i64 j ∧ Below w.heap.size w wr) (fun i _ => kids.length - (intOf i).toNat)
  case atStart => exact ⟨0, Nat.zero_le _, rfl, Below.refl _ _⟩
  case round =>
    obtain ⟨j, hj, rfl, hbel⟩ := hrel
    by_cases hlt : j < kids.length
    · obtain ⟨g1, o1, rfl, hg1, hkid1⟩ := (Hk1.out.below hbel) (by omega)
      obtain ⟨g2, o2, rfl, hg2, hkid2⟩ := (Hk2.out.below hbel) (by omega)
      obtain ⟨u0, u1, u2, u3, u4, u5, ⟨q0, q1, q2, q3, q4, q5⟩, hls1⟩ := hkid1 j kids[j] (List.getElem?_eq_getElem hlt)
      obtain ⟨v0, v1, v2, v3, v4, v5, ⟨r0, r1, r2, r3, r4, r5⟩, hls2⟩ := hkid2 j kids[j] (List.getElem?_eq_getElem hlt)
      have HC := Lib.hid (fun w1 (hb : Below wr.heap.size wr w1) => HE.out kids[j] _ _ w1 (hls1.below hb) (hls2.below hb))
      have Hbel := Lib.hid hbel
      clear hkid1 hkid2 hls1 hls2 hbel hg1 hg2
      go_wp2_with fail
      go_region_law (go_simp; go_at_call 10; refine (HC.out _ (Below.refl _ _).drew).mono ?_; rintro e w1 ⟨rfl, hb1⟩)
      all_goals
        have hbel1 := Hbel.out.trans (((Below.refl _ _).drew.trans (hb1.mono (Nat.le_refl _))).mono Hbel.out.size)
        clear hb1 q0 q1 q2 q3 q4 q5 r0 r1 r2 r3 r4 r5
        go_wp2_with fail
        go_roundw
        case rel => exact ⟨j + 1, by omega, by go_num, hbel1⟩
        case measure => simp [intOf]; omega
    · obtain rfl : j = kids.length := by omega
      have Hbel := Lib.hid hbel
      clear hbel
      go_wp2_with fail
      go_ret
      exact ⟨rfl, Hbel.out⟩
theorem eq_kids : ∀ f, EqKids f
  | 0 => eq_kids_step (fun t vs us w h => by
      obtain ⟨k, fl, n, s, ks, kids⟩ := t
      obtain ⟨_, _, _, _, _, _, _, _, _, _, _, _, _, _, f', hf, _⟩ := open_tree h
      omega)
  | f + 1 => eq_kids_step (fun t vs us w h1 h2 => eq_of (eq_kids f) t vs us w h1 h2)
/-- eqTree on two equal trees in memory. -/
theorem eq_tree {f : Nat} (t : T) (vs us : List Value) (w : World) (h1 : LiesS w f vs (row t)) (h2 : LiesS w f us (row t)) :
    Calls Tryz.prog 10 #[.agg vs.toArray, .agg us.toArray] w fun e w' => e = .returned (.bool true) ∧ Below w.heap.size w w' :=
  eq_of (eq_kids f) t vs us w (h1.deeper (Nat.le_succ f)) (h2.deeper (Nat.le_succ f))
end Go.Proofs.YtbfkkaafkinpmaaGreatDoor.tree
