/- The law's own count of a tree: szStringS, szTreeS, szTree. -/
import Derived.Test.YtmldigfghiofkaaTreeL
import Derived.Test.YtmldigfghiofkaaRows
import Derived.ProofKit
import Derived.OpenShut
namespace Go.Proofs.Ytmldigfghiofkaa.tree
open Go.ChangeShapes Go.WideShapes Go.ChangeAt Go.RowKit
set_option linter.unusedVariables false

/-- What is left of so many behind x: -1 if they do not do. -/
def cutW (left : Int) (x : Nat) : Int := if left < x then -1 else left - x
theorem cut_no {left : Int} {x : Nat} (h : left < x) : cutW left x = -1 := by unfold cutW; rw [if_pos h]
theorem cut_yes {left : Int} {x : Nat} (h : ¬ left < x) : cutW left x = left - x := by unfold cutW; rw [if_neg h]
/-- The bounds of left. -/
def Left (l : Int) : Prop := 0 ≤ l ∧ l ≤ 1048576

theorem sz_keys (A : Option Addr) (c : Nat) (ks : List ByteArray) (left : Int) (w : World) (hc : ks.length ≤ c) (hm : c ≤ maxLen) (hr : Rd w A ks.length (scells ks)) (hks : ∀ x ∈ ks, x.size ≤ maxLen) (hl : Left left) :
    Calls Try.prog 36 #[.slice A ks.length c, .int .i64 left] w fun e w' => e = .returned (.int .i64 (cutW left (ks.length + weightK ks))) ∧ w' = w := by
  unfold maxLen at hm
  unfold Left at hl
  have Hr := Lib.hid hr
  have Hks := Lib.hid hks
  clear hr hks
  by_cases h0 : left < ks.length
  · have He := Lib.hid (cut_no (show left < ((ks.length + weightK ks : Nat) : Int) by omega))
    go_enter Try.func36, Try.ntmps36
    go_wp2_with fail
    go_ret
    exact ⟨by rw [He.out]; rfl, rfl⟩
  · go_enter Try.func36, Try.ntmps36
    go_wp2_with fail
    go_loop [1, 5] (fun a i => ∃ (j : Nat) (l : Int), j ≤ ks.length ∧ i = .int .i64 j ∧ a = .int .i64 l ∧ 0 ≤ l ∧ l ≤ 1048576 ∧ Hid (l = left - ks.length - weightK (ks.take j))) (fun _ i => ks.length - (intOf i).toNat)
    case atStart => exact ⟨0, left - ks.length, Nat.zero_le _, rfl, rfl, by omega, by omega, by unfold Hid; simp [weightK]⟩
    case round =>
      obtain ⟨j, l, hj, rfl, rfl, hl0, hl1, hin⟩ := hrel
      by_cases hlt : j < ks.length
      · obtain ⟨g, o, rfl, hg, hc0⟩ := Hr.out.2 (by omega)
        have hcell := hc0 j hlt _ (scells_get ks j hlt)
        have hsz := Hks.out ks[j] (List.getElem_mem hlt)
        unfold maxLen at hsz
        have hnext : weightK (ks.take (j + 1)) = weightK (ks.take j) + ks[j].size := by
          rw [List.take_succ_eq_append_getElem hlt, weightK_append]
          simp [weightK]
        have hall : weightK ks = weightK (ks.take (j + 1)) + weightK (ks.drop (j + 1)) := by rw [← weightK_append, List.take_append_drop]
        clear hc0 hg
        by_cases h1 : l < ks[j].size
        · have He := Lib.hid (cut_no (show left < ((ks.length + weightK ks : Nat) : Int) by have := hin.out; omega))
          clear hnext hall hin
          generalize ks[j] = x at hcell hsz h1
          go_wp2_with fail
          go_ret
          exact ⟨by rw [He.out]; rfl, rfl⟩
        · have Hin := Lib.hid (show l - ks[j].size = left - ks.length - weightK (ks.take (j + 1)) by have := hin.out; omega)
          clear hnext hall hin
          generalize ks[j] = x at hcell hsz h1 Hin
          go_wp2_with fail
          go_round
          case rel => exact ⟨j + 1, l - x.size, by omega, by go_num, rfl, by omega, by omega, Hin.out⟩
          case measure => simp [intOf]; omega
      · obtain rfl : j = ks.length := by omega
        rw [List.take_of_length_le (Nat.le_refl _)] at hin
        have He := Lib.hid (cut_yes (show ¬ left < ((ks.length + weightK ks : Nat) : Int) by have := hin.out; omega))
        have Hin := Lib.hid (show left - ((ks.length + weightK ks : Nat) : Int) = l by have := hin.out; omega)
        clear hin
        go_wp2_with fail
        go_ret
        exact ⟨by rw [He.out, Hin.out]; rfl, rfl⟩

/-- At a depth. -/
def SzKids (f : Nat) : Prop := ∀ (A : Option Addr) (c : Nat) (kids : List T) (left : Int) (w : World), kids.length ≤ c → c ≤ maxLen → KidsAt w f A kids → Left left →
  Calls Try.prog 30 #[.slice A kids.length c, .int .i64 left] w fun e w' => e = .returned (.int .i64 (cutW left (kids.length + weights kids))) ∧ Below w.heap.size w w'
theorem sz_of {f : Nat} (hP : SzKids f) (t : T) (vs : List Value) (left : Int) (w : World) (h : LiesS w (f + 1) vs (row t)) (hl : Left left) :
    Calls Try.prog 11 #[.agg vs.toArray, .int .i64 left] w fun e w' => e = .returned (.int .i64 (cutW left (weight t))) ∧ Below w.heap.size w w' := by
  obtain ⟨k, fl, n, s, ks, kids⟩ := t
  obtain ⟨A1, c1, A2, c2, rfl, _, _, hs, hc1, hc2, hr, hks, hc3, hc4, f', hf, hk⟩ := open_tree h
  obtain rfl : f = f' := by omega
  clear h hf
  unfold Left at hl
  unfold maxLen at hs
  rw [weight]
  have HB := Lib.hid (Box.new 25 w [.int .i64 k, .bool fl, .int .i64 n, .string s, .slice A1 ks.length c1, .slice A2 kids.length c2])
  have HK := Lib.hid (fun w1 left (hb : Below w.heap.size w w1) hl => sz_keys A1 c1 ks left w1 hc1 hc2 (hr.below hb) hks hl)
  have HP := Lib.hid (fun w1 left (hb : Below w.heap.size w w1) hl => hP A2 c2 kids left w1 hc3 hc4 (hk.below hb) hl)
  clear hr hk hks hc1 hc2 hc3 hc4 hP
  have hc3' := HB.out.cell (j := 3) rfl
  have hc4' := HB.out.cell (j := 4) rfl
  have hc5' := HB.out.cell (j := 5) rfl
  generalize hX : ks.length + weightK ks = X at HK
  generalize hY : kids.length + weights kids = Y at HP
  have hs0 : (0 : Int) ≤ s.size := by omega
  by_cases h0 : left < s.size
  · have He := Lib.hid (cut_no (show left < ((s.size + X + Y : Nat) : Int) by omega))
    clear hX hY
    go_enter Try.func11, Try.ntmps11
    go_wp2_with fail
    go_ret
    exact ⟨by rw [He.out]; rfl, HB.out.1⟩
  have HK1 := Lib.hid (HK.out _ (left - s.size) HB.out.1 ⟨by omega, by omega⟩)
  by_cases h1 : left - s.size < X
  · have He := Lib.hid (cut_no (show left < ((s.size + X + Y : Nat) : Int) by omega))
    rw [cut_no h1] at HK1
    clear hX hY
    go_enter Try.func11, Try.ntmps11
    go_wp2_with fail
    refine HK1.out.mono ?_
    rintro e w1 ⟨rfl, rfl⟩
    go_wp2_with fail
    go_ret
    exact ⟨by rw [He.out]; rfl, HB.out.1⟩
  rw [cut_yes h1] at HK1
  have HP1 := Lib.hid (HP.out _ (left - s.size - X) HB.out.1 ⟨by omega, by omega⟩)
  by_cases h2 : left - s.size - X < Y
  · have He := Lib.hid (cut_no (show left < ((s.size + X + Y : Nat) : Int) by omega))
    rw [cut_no h2] at HP1
    clear hX hY
    go_enter Try.func11, Try.ntmps11
    go_wp2_with fail
    refine HK1.out.mono ?_
    rintro e w1 ⟨rfl, rfl⟩
    go_wp2_with fail
    refine HP1.out.mono ?_
    rintro e w1 ⟨rfl, hb1⟩
    have HB1 := Lib.hid (HB.out.below hb1)
    go_wp2_with fail
    go_ret
    exact ⟨by rw [He.out]; rfl, HB1.out.1⟩
  · have He := Lib.hid (cut_yes (show ¬ left < ((s.size + X + Y : Nat) : Int) by omega))
    have He2 := Lib.hid (show left - ((s.size + X + Y : Nat) : Int) = left - s.size - X - Y by omega)
    rw [cut_yes h2] at HP1
    clear hX hY
    go_enter Try.func11, Try.ntmps11
    go_wp2_with fail
    refine HK1.out.mono ?_
    rintro e w1 ⟨rfl, rfl⟩
    go_wp2_with fail
    refine HP1.out.mono ?_
    rintro e w1 ⟨rfl, hb1⟩
    have HB1 := Lib.hid (HB.out.below hb1)
    go_wp2_with fail
    go_ret
    exact ⟨by rw [He.out, He2.out]; rfl, HB1.out.1⟩

theorem sz_kids_step {f : Nat} (hE : ∀ (t : T) (vs : List Value) (left : Int) (w : World), LiesS w f vs (row t) → Left left →
    Calls Try.prog 11 #[.agg vs.toArray, .int .i64 left] w fun e w' => e = .returned (.int .i64 (cutW left (weight t))) ∧ Below w.heap.size w w') : SzKids f := by
  intro A c kids left w hc hm hk hl
  unfold maxLen at hm
  unfold Left at hl
  have Hk := Lib.hid hk
  have HE := Lib.hid hE
  clear hk hE
  by_cases h0 : left < kids.length
  · have He := Lib.hid (cut_no (show left < ((kids.length + weights kids : Nat) : Int) by omega))
    go_enter Try.func30, Try.ntmps30
    go_wp2_with fail
    go_ret
    exact ⟨by rw [He.out]; rfl, Below.refl _ _⟩
  · go_enter Try.func30, Try.ntmps30
    go_wp2_with fail
    go_loopw [1, 5] (fun a i wr => ∃ (j : Nat) (l : Int), j ≤ kids.length ∧ i = .int .i64 j ∧ a = .int .i64 l ∧ 0 ≤ l ∧ l ≤ 1048576 ∧ Hid (l = left - kids.length - weights (kids.take j)) ∧ Below w.heap.size w wr) (fun _ i _ => kids.length - (intOf i).toNat)
    case atStart => exact ⟨0, left - kids.length, Nat.zero_le _, rfl, rfl, by omega, by omega, by unfold Hid; simp [weights], Below.refl _ _⟩
    case round =>
      obtain ⟨j, l, hj, rfl, rfl, hl0, hl1, hin, hbel⟩ := hrel
      by_cases hlt : j < kids.length
      · obtain ⟨g, o, rfl, hg, hkid⟩ := (Hk.out.below hbel) (by omega)
        obtain ⟨u0, u1, u2, u3, u4, u5, ⟨q0, q1, q2, q3, q4, q5⟩, hls⟩ := hkid j kids[j] (List.getElem?_eq_getElem hlt)
        have HC := Lib.hid (HE.out kids[j] _ l wr hls ⟨hl0, hl1⟩)
        have hnext : weights (kids.take (j + 1)) = weights (kids.take j) + weight kids[j] := by
          rw [List.take_succ_eq_append_getElem hlt, weights_append]
          simp [weights]
        have hall : weights kids = weights (kids.take (j + 1)) + weights (kids.drop (j + 1)) := by rw [← weights_append, List.take_append_drop]
        have Hbel := Lib.hid hbel
        clear hkid hls hbel hg
        by_cases h1 : l < weight kids[j]
        · have He := Lib.hid (cut_no (show left < ((kids.length + weights kids : Nat) : Int) by have := hin.out; omega))
          rw [cut_no h1] at HC
          clear hnext hall hin h1
          go_wp2_with fail
          refine HC.out.mono ?_
          rintro e w1 ⟨rfl, hb1⟩
          have Hbel1 := Lib.hid (Hbel.out.trans (hb1.mono Hbel.out.size))
          clear hb1 q0 q1 q2 q3 q4 q5
          go_wp2_with fail
          go_ret
          exact ⟨by rw [He.out]; rfl, Hbel1.out⟩
        · have Hin := Lib.hid (show l - weight kids[j] = left - kids.length - weights (kids.take (j + 1)) by have := hin.out; omega)
          rw [cut_yes h1] at HC
          clear hnext hall hin
          generalize weight kids[j] = x at HC h1 Hin
          go_wp2_with fail
          refine HC.out.mono ?_
          rintro e w1 ⟨rfl, hb1⟩
          have Hbel1 := Lib.hid (Hbel.out.trans (hb1.mono Hbel.out.size))
          clear hb1 q0 q1 q2 q3 q4 q5
          go_wp2_with fail
          go_roundw
          case rel => exact ⟨j + 1, l - x, by omega, by go_num, rfl, by omega, by omega, Hin.out, Hbel1.out⟩
          case measure => simp [intOf]; omega
      · obtain rfl : j = kids.length := by omega
        rw [List.take_of_length_le (Nat.le_refl _)] at hin
        have He := Lib.hid (cut_yes (show ¬ left < ((kids.length + weights kids : Nat) : Int) by have := hin.out; omega))
        have Hin := Lib.hid (show left - ((kids.length + weights kids : Nat) : Int) = l by have := hin.out; omega)
        have Hbel := Lib.hid hbel
        clear hin hbel
        go_wp2_with fail
        go_ret
        exact ⟨by rw [He.out, Hin.out]; rfl, Hbel.out⟩
theorem sz_kids : ∀ f, SzKids f
  | 0 => sz_kids_step (fun t vs left w h => by
      obtain ⟨k, fl, n, s, ks, kids⟩ := t
      obtain ⟨_, _, _, _, _, _, _, _, _, _, _, _, _, _, f', hf, _⟩ := open_tree h
      omega)
  | f + 1 => sz_kids_step (fun t vs left w h hl => sz_of (sz_kids f) t vs left w h hl)
/-- szTree of a tree that lies in memory. -/
theorem sz_tree {f : Nat} (t : T) (vs : List Value) (left : Int) (w : World) (h : LiesS w f vs (row t)) (hl : Left left) :
    Calls Try.prog 11 #[.agg vs.toArray, .int .i64 left] w fun e w' => e = .returned (.int .i64 (cutW left (weight t))) ∧ Below w.heap.size w w' :=
  sz_of (sz_kids f) t vs left w (h.deeper (Nat.le_succ f)) hl
end Go.Proofs.Ytmldigfghiofkaa.tree
