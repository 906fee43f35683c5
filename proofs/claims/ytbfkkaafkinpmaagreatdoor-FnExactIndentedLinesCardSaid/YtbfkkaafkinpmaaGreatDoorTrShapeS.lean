/- spec.l08Text, spec.l08Shape. -/
import Derived.Test.YtbfkkaafkinpmaaGreatDoorGTree
import Derived.Test.YtbfkkaafkinpmaaGreatDoorGRn
import Derived.Test.YtbfkkaafkinpmaaGreatDoorGArith
import Derived.Deep.RegionHeld3
import Derived.Laws.Cover1
namespace Go.Proofs.YtbfkkaafkinpmaaGreatDoor.tree
open Go.ChangeShapes Go.WideShapes Go.ChangeAt Go.RowKit
set_option linter.unusedVariables false

open Classical in
noncomputable def dec (p : Prop) : Bool := decide p
theorem dec_yes {p : Prop} (h : p) : dec p = true := by unfold dec; simp [h]
theorem dec_no {p : Prop} (h : ¬ p) : dec p = false := by unfold dec; simp [h]
theorem spec_word (s : ByteArray) (w : World) (hs : s.size ≤ maxLen) :
    Calls Tryz.prog 42 #[.string s] w fun e w' => e = .returned (.bool (dec (TextOk s))) ∧ Below w.heap.size w w' := by
  unfold maxLen at hs
  by_cases h : s.size ≤ 400
  · have HU := Lib.hid (rune.spec_utf s w (by omega))
    have e : dec (TextOk s) = rune.okS s := by
      unfold rune.okS
      cases hb : (rune.runesF s).isSome with
      | true => exact dec_yes ⟨h, hb⟩
      | false => exact dec_no (fun h2 => by rw [h2.2] at hb; cases hb)
    rw [e]
    generalize rune.okS s = b at HU
    clear e
    go_enter Tryz.func42, Tryz.ntmps42
    go_wp2_with fail
    refine HU.out.mono ?_
    rintro e w1 ⟨rfl, hb⟩
    clear HU
    go_wp2_with fail
    go_ret
    exact ⟨rfl, hb⟩
  · rw [dec_no (fun h2 => h h2.1)]
    go_enter Tryz.func42, Tryz.ntmps42
    go_wp2_with fail
    go_ret
    exact ⟨rfl, Below.refl _ _⟩
/-- At a depth: what holds of the kids. -/
def ShapeAt (f : Nat) : Prop := ∀ (t : T) (vs : List Value) (w : World), LiesS w f vs (row t) →
  Calls Tryz.prog 32 #[.agg vs.toArray] w fun e w' => e = .returned (.bool (dec (Shape t))) ∧ Below w.heap.size w w'
theorem shape_iff {k : Int} {fl : Bool} {n : Int} {s : ByteArray} {ks : List ByteArray} {kids : List T} : Shape (.mk k fl n s ks kids) ↔ Fit k fl n s ks.length kids.length ∧ TextOk s ∧ KeysOk ks ∧ ∀ x ∈ kids, Shape x := by rw [Shape, shapes_iff]
theorem getD_at {ks : List ByteArray} {j : Nat} (h : j < ks.length) : ks.getD j ⟨#[]⟩ = ks[j] := by simp [List.getD_eq_getElem?_getD, h]
theorem key_text {ks : List ByteArray} {j : Nat} (h : j < ks.length) (k : KeyOk ks j) : TextOk ks[j] := by have := k.1; rwa [getD_at h] at this
theorem key_less {ks : List ByteArray} {m j : Nat} (e : m + 1 = j) (h : j < ks.length) (k : KeyOk ks j) : less (ks[m]'(by omega)) ks[j] = true := by
  have := k.2 (by omega)
  rwa [getD_at h, getD_at (show j - 1 < ks.length by omega), show ks[j - 1]'(by omega) = ks[m]'(by omega) from by congr 1; omega] at this
theorem key_first {ks : List ByteArray} {j : Nat} (e : j = 0) (h : j < ks.length) (ht : TextOk ks[j]) : KeyOk ks j := ⟨by rwa [getD_at h], fun h0 => by omega⟩
theorem key_next {ks : List ByteArray} {m j : Nat} (e : m + 1 = j) (h : j < ks.length) (ht : TextOk ks[j]) (hl : less (ks[m]'(by omega)) ks[j] = true) : KeyOk ks j :=
  ⟨by rwa [getD_at h], fun _ => by
    rw [getD_at h, getD_at (show j - 1 < ks.length by omega), show ks[j - 1]'(by omega) = ks[m]'(by omega) from by congr 1; omega]
    exact hl⟩
theorem keepc {a b : World} {p : Addr} {x : Value} (k : Below a.heap.size a b) (h : a.cell? p = some x) : b.cell? p = some x := by rw [k.cell (World.block_lt_of_cell? a p h)]; exact h
theorem keep2 {W a b : World} {p q : Addr} {x y : Value} (h : Below W.heap.size W a ∧ a.cell? p = some x ∧ a.cell? q = some y) (k : Below a.heap.size a b) : Below W.heap.size W b ∧ b.cell? p = some x ∧ b.cell? q = some y :=
  ⟨h.1.trans (k.mono h.1.size), keepc k h.2.1, keepc k h.2.2⟩
theorem keep3 {W a b : World} {p q r : Addr} {x y z : Value} (h : Below W.heap.size W a ∧ a.cell? p = some x ∧ a.cell? q = some y ∧ a.cell? r = some z) (k : Below a.heap.size a b) : Below W.heap.size W b ∧ b.cell? p = some x ∧ b.cell? q = some y ∧ b.cell? r = some z :=
  ⟨h.1.trans (k.mono h.1.size), keepc k h.2.1, keepc k h.2.2.1, keepc k h.2.2.2⟩

set_option maxRecDepth 100000 in
set_option maxHeartbeats 16000000 in
theorem shape_1 {f : Nat} (IH0 : ShapeAt f) (fl : Bool) (n : Int) (s : ByteArray) (ks : List ByteArray) (kids : List T) (vs : List Value) (w : World) (h : LiesS w (f + 1) vs (row (.mk 1 fl n s ks kids))) :
    Calls Tryz.prog 32 #[.agg vs.toArray] w fun e w' => e = .returned (.bool (dec (Shape (.mk 1 fl n s ks kids)))) ∧ Below w.heap.size w w' := by
  obtain ⟨A1, c1, A2, c2, rfl, _, _, hs, hc1, hc2, hr, hks, hc3, hc4, f', hf, hk⟩ := open_tree h
  obtain rfl : f = f' := by omega
  unfold maxLen at hc2 hc4
  have HW := Lib.hid (fun w => spec_word s w hs)
  have HJ := Lib.hid (fun w => arith.in_yes 1 1 6 w (by decide) (by decide))
  have Hr := Lib.hid hr
  have Hks := Lib.hid hks
  have Hk := Lib.hid hk
  have IH := Lib.hid IH0
  obtain ⟨R, hR⟩ : ∃ R, dec (Shape (.mk 1 fl n s ks kids)) = R := ⟨_, rfl⟩
  rw [hR]
  have HNO := Lib.hid (fun (hne : ¬ (Fit 1 fl n s ks.length kids.length ∧ TextOk s ∧ KeysOk ks ∧ ∀ x ∈ kids, Shape x)) => hR.symm.trans (dec_no (fun h => hne (shape_iff.1 h))))
  have HYES := Lib.hid (fun (hy : Fit 1 fl n s ks.length kids.length ∧ TextOk s ∧ KeysOk ks ∧ ∀ x ∈ kids, Shape x) => hR.symm.trans (dec_yes (shape_iff.2 hy)))
  unfold Fit at HNO HYES
  clear h hf hr hks hk hR IH0 hs
  by_cases hF : fl = false
  rotate_left
  · skip
    obtain rfl : fl = true := by simpa using hF
    · have Hn := Lib.hid (HNO.out (fun h => by have := h.1.2.2.1 rfl; omega))
      clear HNO HYES
      have HB := Lib.hid (Box.new 30 w [.int .i64 1, .bool true, .int .i64 n, .string s, .slice A1 ks.length c1, .slice A2 kids.length c2])
      have b0 := HB.out.cell (j := 0) rfl
      have b1 := HB.out.cell (j := 1) rfl
      have b2 := HB.out.cell (j := 2) rfl
      have b3 := HB.out.cell (j := 3) rfl
      have b4 := HB.out.cell (j := 4) rfl
      have b5 := HB.out.cell (j := 5) rfl
      go_enter Tryz.func32, Tryz.ntmps32
      go_wp2_with fail
      refine (HJ.out _).mono ?_
      rintro e w0 ⟨rfl, rfl⟩
      go_wp2_with fail
      go_ret
      exact ⟨by rw [Hn.out]; rfl, HB.out.1⟩
  subst hF
  by_cases hN : n = 0
  rotate_left
  · skip
    have eN : (n != 0) = true := bne_iff_ne.2 hN
    · have Hn := Lib.hid (HNO.out (fun h => by have := h.1.2.2.2.1 hN; omega))
      clear HNO HYES
      have HB := Lib.hid (Box.new 30 w [.int .i64 1, .bool false, .int .i64 n, .string s, .slice A1 ks.length c1, .slice A2 kids.length c2])
      have b0 := HB.out.cell (j := 0) rfl
      have b1 := HB.out.cell (j := 1) rfl
      have b2 := HB.out.cell (j := 2) rfl
      have b3 := HB.out.cell (j := 3) rfl
      have b4 := HB.out.cell (j := 4) rfl
      have b5 := HB.out.cell (j := 5) rfl
      go_enter Tryz.func32, Tryz.ntmps32
      go_wp2_with fail
      refine (HJ.out _).mono ?_
      rintro e w0 ⟨rfl, rfl⟩
      go_wp2_with fail
      go_ret
      exact ⟨by rw [Hn.out]; rfl, HB.out.1⟩
  subst hN
  by_cases hS : s.size = 0
  rotate_left
  · skip
    have eS := empty_no (f := s) (by omega)
    · have Hn := Lib.hid (HNO.out (fun h => by have := h.1.2.2.2.2.1 (by omega); omega))
      clear HNO HYES
      have HB := Lib.hid (Box.new 30 w [.int .i64 1, .bool false, .int .i64 0, .string s, .slice A1 ks.length c1, .slice A2 kids.length c2])
      have b0 := HB.out.cell (j := 0) rfl
      have b1 := HB.out.cell (j := 1) rfl
      have b2 := HB.out.cell (j := 2) rfl
      have b3 := HB.out.cell (j := 3) rfl
      have b4 := HB.out.cell (j := 4) rfl
      have b5 := HB.out.cell (j := 5) rfl
      go_enter Tryz.func32, Tryz.ntmps32
      go_wp2_with fail
      refine (HJ.out _).mono ?_
      rintro e w0 ⟨rfl, rfl⟩
      go_wp2_with fail
      go_ret
      exact ⟨by rw [Hn.out]; rfl, HB.out.1⟩
  obtain rfl : s = ⟨#[]⟩ := by apply ByteArray.ext; exact Array.eq_empty_of_size_eq_zero hS
  by_cases hK : ks.length = 0
  rotate_left
  · skip
    have eK : (0 : Int) < ks.length := by omega
    · have Hn := Lib.hid (HNO.out (fun h => by have := h.1.2.2.2.2.2.1 (by omega); omega))
      clear HNO HYES
      have HB := Lib.hid (Box.new 30 w [.int .i64 1, .bool false, .int .i64 0, .string ⟨#[]⟩, .slice A1 ks.length c1, .slice A2 kids.length c2])
      have b0 := HB.out.cell (j := 0) rfl
      have b1 := HB.out.cell (j := 1) rfl
      have b2 := HB.out.cell (j := 2) rfl
      have b3 := HB.out.cell (j := 3) rfl
      have b4 := HB.out.cell (j := 4) rfl
      have b5 := HB.out.cell (j := 5) rfl
      go_enter Tryz.func32, Tryz.ntmps32
      go_wp2_with fail
      refine (HJ.out _).mono ?_
      rintro e w0 ⟨rfl, rfl⟩
      go_wp2_with fail
      go_ret
      exact ⟨by rw [Hn.out]; rfl, HB.out.1⟩
  obtain rfl : ks = [] := List.eq_nil_of_length_eq_zero hK
  by_cases hD : kids.length = 0
  rotate_left
  · skip
    have eD : (0 : Int) < kids.length := by omega
    · have Hn := Lib.hid (HNO.out (fun h => by have := h.1.2.2.2.2.2.2.1 (by omega); omega))
      clear HNO HYES
      have HB := Lib.hid (Box.new 30 w [.int .i64 1, .bool false, .int .i64 0, .string ⟨#[]⟩, .slice A1 0 c1, .slice A2 kids.length c2])
      have b0 := HB.out.cell (j := 0) rfl
      have b1 := HB.out.cell (j := 1) rfl
      have b2 := HB.out.cell (j := 2) rfl
      have b3 := HB.out.cell (j := 3) rfl
      have b4 := HB.out.cell (j := 4) rfl
      have b5 := HB.out.cell (j := 5) rfl
      go_enter Tryz.func32, Tryz.ntmps32
      go_wp2_with fail
      refine (HJ.out _).mono ?_
      rintro e w0 ⟨rfl, rfl⟩
      go_wp2_with fail
      go_ret
      exact ⟨by rw [Hn.out]; rfl, HB.out.1⟩
  obtain rfl : kids = [] := List.eq_nil_of_length_eq_zero hD
  by_cases hT : TextOk ⟨#[]⟩
  rotate_left
  · have Hn := Lib.hid (HNO.out (fun h => hT h.2.1))
    rw [dec_no hT] at HW
    clear HNO HYES
    have HB := Lib.hid (Box.new 30 w [.int .i64 1, .bool false, .int .i64 0, .string ⟨#[]⟩, .slice A1 0 c1, .slice A2 0 c2])
    have b0 := HB.out.cell (j := 0) rfl
    have b1 := HB.out.cell (j := 1) rfl
    have b2 := HB.out.cell (j := 2) rfl
    have b3 := HB.out.cell (j := 3) rfl
    have b4 := HB.out.cell (j := 4) rfl
    have b5 := HB.out.cell (j := 5) rfl
    go_enter Tryz.func32, Tryz.ntmps32
    go_wp2_with fail
    refine (HJ.out _).mono ?_
    rintro e w0 ⟨rfl, rfl⟩
    go_wp2_with fail
    refine (HW.out _).mono ?_
    rintro e w1 ⟨rfl, hb1⟩
    have HB1 := Lib.hid (HB.out.below hb1)
    clear hb1 b0 b1 b2 b3 b4 b5
    go_wp2_with fail
    go_ret
    exact ⟨by rw [Hn.out]; rfl, HB1.out.1⟩
  rw [dec_yes hT] at HW
  have HB := Lib.hid (Box.new 30 w [.int .i64 1, .bool false, .int .i64 0, .string ⟨#[]⟩, .slice A1 0 c1, .slice A2 0 c2])
  have b0 := HB.out.cell (j := 0) rfl
  have b1 := HB.out.cell (j := 1) rfl
  have b2 := HB.out.cell (j := 2) rfl
  have b3 := HB.out.cell (j := 3) rfl
  have b4 := HB.out.cell (j := 4) rfl
  have b5 := HB.out.cell (j := 5) rfl
  go_enter Tryz.func32, Tryz.ntmps32
  go_wp2_with fail
  refine (HJ.out _).mono ?_
  rintro e w0 ⟨rfl, rfl⟩
  go_wp2_with fail
  refine (HW.out _).mono ?_
  rintro e w1 ⟨rfl, hb1⟩
  have HB1 := Lib.hid (HB.out.below hb1)
  clear hb1 b0 b1 b2 b3 b4 b5
  have b0 := HB1.out.cell (j := 0) rfl
  have b4 := HB1.out.cell (j := 4) rfl
  have b5 := HB1.out.cell (j := 5) rfl
  go_wp2_with fail
  go_loopw [3] (fun i wr => i = .int .i64 0 ∧ Box 30 w [.int .i64 1, .bool false, .int .i64 0, .string ⟨#[]⟩, .slice A1 0 c1, .slice A2 0 c2] wr) (fun _ _ => 0)
  case atStart => exact ⟨rfl, HB1.out⟩
  case round =>
    obtain ⟨rfl, hbox⟩ := hrel
    clear HB1 b0 b4 b5
    have p4 := hbox.cell (j := 4) rfl
    have p5 := hbox.cell (j := 5) rfl
    have Hb2 := Lib.hid hbox
    clear hbox
    have Hkey := Lib.hid (show KeysOk [] from fun i h => absurd h (Nat.not_lt_zero _))
    go_wp2_with fail
    clear p4 p5
    go_loopw [4] (fun i wr => i = .int .i64 0 ∧ Box 30 w [.int .i64 1, .bool false, .int .i64 0, .string ⟨#[]⟩, .slice A1 0 c1, .slice A2 0 c2] wr) (fun _ _ => 0)
    case atStart => exact ⟨rfl, Hb2.out⟩
    case round =>
      obtain ⟨rfl, hbox⟩ := hrel
      clear Hb2
      have p5 := hbox.cell (j := 5) rfl
      have Hb3 := Lib.hid hbox
      clear hbox
      have Hy := Lib.hid (HYES.out ⟨⟨by decide, by decide, (by first | (intro _; rfl) | (intro _; decide) | (intro h; exact absurd h (by decide)) | (intro h; exact absurd rfl h) | (intro _; exact HL.out)), (by first | (intro _; rfl) | (intro _; decide) | (intro h; exact absurd h (by decide)) | (intro h; exact absurd rfl h) | (intro _; exact HL.out)), (by first | (intro _; rfl) | (intro _; decide) | (intro h; exact absurd h (by decide)) | (intro h; exact absurd rfl h) | (intro _; exact HL.out)), (by first | (intro _; rfl) | (intro _; decide) | (intro h; exact absurd h (by decide)) | (intro h; exact absurd rfl h) | (intro _; exact HL.out)), (by first | (intro _; rfl) | (intro _; decide) | (intro h; exact absurd h (by decide)) | (intro h; exact absurd rfl h) | (intro _; exact HL.out)), (by first | (intro _; rfl) | (intro _; decide) | (intro h; exact absurd h (by decide)) | (intro h; exact absurd rfl h) | (intro _; exact HL.out))⟩, hT, Hkey.out, fun x hx => by simp at hx⟩)
      clear HYES HNO
      go_wp2_with fail
      go_ret
      exact ⟨by rw [Hy.out]; rfl, Hb3.out.1⟩
set_option maxRecDepth 100000 in
set_option maxHeartbeats 16000000 in
theorem shape_2 {f : Nat} (IH0 : ShapeAt f) (fl : Bool) (n : Int) (s : ByteArray) (ks : List ByteArray) (kids : List T) (vs : List Value) (w : World) (h : LiesS w (f + 1) vs (row (.mk 2 fl n s ks kids))) :
    Calls Tryz.prog 32 #[.agg vs.toArray] w fun e w' => e = .returned (.bool (dec (Shape (.mk 2 fl n s ks kids)))) ∧ Below w.heap.size w w' := by
  obtain ⟨A1, c1, A2, c2, rfl, _, _, hs, hc1, hc2, hr, hks, hc3, hc4, f', hf, hk⟩ := open_tree h
  obtain rfl : f = f' := by omega
  unfold maxLen at hc2 hc4
  have HW := Lib.hid (fun w => spec_word s w hs)
  have HJ := Lib.hid (fun w => arith.in_yes 2 1 6 w (by decide) (by decide))
  have Hr := Lib.hid hr
  have Hks := Lib.hid hks
  have Hk := Lib.hid hk
  have IH := Lib.hid IH0
  obtain ⟨R, hR⟩ : ∃ R, dec (Shape (.mk 2 fl n s ks kids)) = R := ⟨_, rfl⟩
  rw [hR]
  have HNO := Lib.hid (fun (hne : ¬ (Fit 2 fl n s ks.length kids.length ∧ TextOk s ∧ KeysOk ks ∧ ∀ x ∈ kids, Shape x)) => hR.symm.trans (dec_no (fun h => hne (shape_iff.1 h))))
  have HYES := Lib.hid (fun (hy : Fit 2 fl n s ks.length kids.length ∧ TextOk s ∧ KeysOk ks ∧ ∀ x ∈ kids, Shape x) => hR.symm.trans (dec_yes (shape_iff.2 hy)))
  unfold Fit at HNO HYES
  clear h hf hr hks hk hR IH0 hs
  by_cases hF : fl = false
  · skip
    subst hF
    by_cases hN : n = 0
    rotate_left
    · skip
      have eN : (n != 0) = true := bne_iff_ne.2 hN
      · have Hn := Lib.hid (HNO.out (fun h => by have := h.1.2.2.2.1 hN; omega))
        clear HNO HYES
        have HB := Lib.hid (Box.new 30 w [.int .i64 2, .bool false, .int .i64 n, .string s, .slice A1 ks.length c1, .slice A2 kids.length c2])
        have b0 := HB.out.cell (j := 0) rfl
        have b1 := HB.out.cell (j := 1) rfl
        have b2 := HB.out.cell (j := 2) rfl
        have b3 := HB.out.cell (j := 3) rfl
        have b4 := HB.out.cell (j := 4) rfl
        have b5 := HB.out.cell (j := 5) rfl
        go_enter Tryz.func32, Tryz.ntmps32
        go_wp2_with fail
        refine (HJ.out _).mono ?_
        rintro e w0 ⟨rfl, rfl⟩
        go_wp2_with fail
        go_ret
        exact ⟨by rw [Hn.out]; rfl, HB.out.1⟩
    subst hN
    by_cases hS : s.size = 0
    rotate_left
    · skip
      have eS := empty_no (f := s) (by omega)
      · have Hn := Lib.hid (HNO.out (fun h => by have := h.1.2.2.2.2.1 (by omega); omega))
        clear HNO HYES
        have HB := Lib.hid (Box.new 30 w [.int .i64 2, .bool false, .int .i64 0, .string s, .slice A1 ks.length c1, .slice A2 kids.length c2])
        have b0 := HB.out.cell (j := 0) rfl
        have b1 := HB.out.cell (j := 1) rfl
        have b2 := HB.out.cell (j := 2) rfl
        have b3 := HB.out.cell (j := 3) rfl
        have b4 := HB.out.cell (j := 4) rfl
        have b5 := HB.out.cell (j := 5) rfl
        go_enter Tryz.func32, Tryz.ntmps32
        go_wp2_with fail
        refine (HJ.out _).mono ?_
        rintro e w0 ⟨rfl, rfl⟩
        go_wp2_with fail
        go_ret
        exact ⟨by rw [Hn.out]; rfl, HB.out.1⟩
    obtain rfl : s = ⟨#[]⟩ := by apply ByteArray.ext; exact Array.eq_empty_of_size_eq_zero hS
    by_cases hK : ks.length = 0
    rotate_left
    · skip
      have eK : (0 : Int) < ks.length := by omega
      · have Hn := Lib.hid (HNO.out (fun h => by have := h.1.2.2.2.2.2.1 (by omega); omega))
        clear HNO HYES
        have HB := Lib.hid (Box.new 30 w [.int .i64 2, .bool false, .int .i64 0, .string ⟨#[]⟩, .slice A1 ks.length c1, .slice A2 kids.length c2])
        have b0 := HB.out.cell (j := 0) rfl
        have b1 := HB.out.cell (j := 1) rfl
        have b2 := HB.out.cell (j := 2) rfl
        have b3 := HB.out.cell (j := 3) rfl
        have b4 := HB.out.cell (j := 4) rfl
        have b5 := HB.out.cell (j := 5) rfl
        go_enter Tryz.func32, Tryz.ntmps32
        go_wp2_with fail
        refine (HJ.out _).mono ?_
        rintro e w0 ⟨rfl, rfl⟩
        go_wp2_with fail
        go_ret
        exact ⟨by rw [Hn.out]; rfl, HB.out.1⟩
    obtain rfl : ks = [] := List.eq_nil_of_length_eq_zero hK
    by_cases hD : kids.length = 0
    rotate_left
    · skip
      have eD : (0 : Int) < kids.length := by omega
      · have Hn := Lib.hid (HNO.out (fun h => by have := h.1.2.2.2.2.2.2.1 (by omega); omega))
        clear HNO HYES
        have HB := Lib.hid (Box.new 30 w [.int .i64 2, .bool false, .int .i64 0, .string ⟨#[]⟩, .slice A1 0 c1, .slice A2 kids.length c2])
        have b0 := HB.out.cell (j := 0) rfl
        have b1 := HB.out.cell (j := 1) rfl
        have b2 := HB.out.cell (j := 2) rfl
        have b3 := HB.out.cell (j := 3) rfl
        have b4 := HB.out.cell (j := 4) rfl
        have b5 := HB.out.cell (j := 5) rfl
        go_enter Tryz.func32, Tryz.ntmps32
        go_wp2_with fail
        refine (HJ.out _).mono ?_
        rintro e w0 ⟨rfl, rfl⟩
        go_wp2_with fail
        go_ret
        exact ⟨by rw [Hn.out]; rfl, HB.out.1⟩
    obtain rfl : kids = [] := List.eq_nil_of_length_eq_zero hD
    by_cases hT : TextOk ⟨#[]⟩
    rotate_left
    · have Hn := Lib.hid (HNO.out (fun h => hT h.2.1))
      rw [dec_no hT] at HW
      clear HNO HYES
      have HB := Lib.hid (Box.new 30 w [.int .i64 2, .bool false, .int .i64 0, .string ⟨#[]⟩, .slice A1 0 c1, .slice A2 0 c2])
      have b0 := HB.out.cell (j := 0) rfl
      have b1 := HB.out.cell (j := 1) rfl
      have b2 := HB.out.cell (j := 2) rfl
      have b3 := HB.out.cell (j := 3) rfl
      have b4 := HB.out.cell (j := 4) rfl
      have b5 := HB.out.cell (j := 5) rfl
      go_enter Tryz.func32, Tryz.ntmps32
      go_wp2_with fail
      refine (HJ.out _).mono ?_
      rintro e w0 ⟨rfl, rfl⟩
      go_wp2_with fail
      refine (HW.out _).mono ?_
      rintro e w1 ⟨rfl, hb1⟩
      have HB1 := Lib.hid (HB.out.below hb1)
      clear hb1 b0 b1 b2 b3 b4 b5
      go_wp2_with fail
      go_ret
      exact ⟨by rw [Hn.out]; rfl, HB1.out.1⟩
    rw [dec_yes hT] at HW
    have HB := Lib.hid (Box.new 30 w [.int .i64 2, .bool false, .int .i64 0, .string ⟨#[]⟩, .slice A1 0 c1, .slice A2 0 c2])
    have b0 := HB.out.cell (j := 0) rfl
    have b1 := HB.out.cell (j := 1) rfl
    have b2 := HB.out.cell (j := 2) rfl
    have b3 := HB.out.cell (j := 3) rfl
    have b4 := HB.out.cell (j := 4) rfl
    have b5 := HB.out.cell (j := 5) rfl
    go_enter Tryz.func32, Tryz.ntmps32
    go_wp2_with fail
    refine (HJ.out _).mono ?_
    rintro e w0 ⟨rfl, rfl⟩
    go_wp2_with fail
    refine (HW.out _).mono ?_
    rintro e w1 ⟨rfl, hb1⟩
    have HB1 := Lib.hid (HB.out.below hb1)
    clear hb1 b0 b1 b2 b3 b4 b5
    have b0 := HB1.out.cell (j := 0) rfl
    have b4 := HB1.out.cell (j := 4) rfl
    have b5 := HB1.out.cell (j := 5) rfl
    go_wp2_with fail
    go_loopw [3] (fun i wr => i = .int .i64 0 ∧ Box 30 w [.int .i64 2, .bool false, .int .i64 0, .string ⟨#[]⟩, .slice A1 0 c1, .slice A2 0 c2] wr) (fun _ _ => 0)
    case atStart => exact ⟨rfl, HB1.out⟩
    case round =>
      obtain ⟨rfl, hbox⟩ := hrel
      clear HB1 b0 b4 b5
      have p4 := hbox.cell (j := 4) rfl
      have p5 := hbox.cell (j := 5) rfl
      have Hb2 := Lib.hid hbox
      clear hbox
      have Hkey := Lib.hid (show KeysOk [] from fun i h => absurd h (Nat.not_lt_zero _))
      go_wp2_with fail
      clear p4 p5
      go_loopw [4] (fun i wr => i = .int .i64 0 ∧ Box 30 w [.int .i64 2, .bool false, .int .i64 0, .string ⟨#[]⟩, .slice A1 0 c1, .slice A2 0 c2] wr) (fun _ _ => 0)
      case atStart => exact ⟨rfl, Hb2.out⟩
      case round =>
        obtain ⟨rfl, hbox⟩ := hrel
        clear Hb2
        have p5 := hbox.cell (j := 5) rfl
        have Hb3 := Lib.hid hbox
        clear hbox
        have Hy := Lib.hid (HYES.out ⟨⟨by decide, by decide, (by first | (intro _; rfl) | (intro _; decide) | (intro h; exact absurd h (by decide)) | (intro h; exact absurd rfl h) | (intro _; exact HL.out)), (by first | (intro _; rfl) | (intro _; decide) | (intro h; exact absurd h (by decide)) | (intro h; exact absurd rfl h) | (intro _; exact HL.out)), (by first | (intro _; rfl) | (intro _; decide) | (intro h; exact absurd h (by decide)) | (intro h; exact absurd rfl h) | (intro _; exact HL.out)), (by first | (intro _; rfl) | (intro _; decide) | (intro h; exact absurd h (by decide)) | (intro h; exact absurd rfl h) | (intro _; exact HL.out)), (by first | (intro _; rfl) | (intro _; decide) | (intro h; exact absurd h (by decide)) | (intro h; exact absurd rfl h) | (intro _; exact HL.out)), (by first | (intro _; rfl) | (intro _; decide) | (intro h; exact absurd h (by decide)) | (intro h; exact absurd rfl h) | (intro _; exact HL.out))⟩, hT, Hkey.out, fun x hx => by simp at hx⟩)
        clear HYES HNO
        go_wp2_with fail
        go_ret
        exact ⟨by rw [Hy.out]; rfl, Hb3.out.1⟩
  · skip
    obtain rfl : fl = true := by simpa using hF
    by_cases hN : n = 0
    rotate_left
    · skip
      have eN : (n != 0) = true := bne_iff_ne.2 hN
      · have Hn := Lib.hid (HNO.out (fun h => by have := h.1.2.2.2.1 hN; omega))
        clear HNO HYES
        have HB := Lib.hid (Box.new 30 w [.int .i64 2, .bool true, .int .i64 n, .string s, .slice A1 ks.length c1, .slice A2 kids.length c2])
        have b0 := HB.out.cell (j := 0) rfl
        have b1 := HB.out.cell (j := 1) rfl
        have b2 := HB.out.cell (j := 2) rfl
        have b3 := HB.out.cell (j := 3) rfl
        have b4 := HB.out.cell (j := 4) rfl
        have b5 := HB.out.cell (j := 5) rfl
        go_enter Tryz.func32, Tryz.ntmps32
        go_wp2_with fail
        refine (HJ.out _).mono ?_
        rintro e w0 ⟨rfl, rfl⟩
        go_wp2_with fail
        go_ret
        exact ⟨by rw [Hn.out]; rfl, HB.out.1⟩
    subst hN
    by_cases hS : s.size = 0
    rotate_left
    · skip
      have eS := empty_no (f := s) (by omega)
      · have Hn := Lib.hid (HNO.out (fun h => by have := h.1.2.2.2.2.1 (by omega); omega))
        clear HNO HYES
        have HB := Lib.hid (Box.new 30 w [.int .i64 2, .bool true, .int .i64 0, .string s, .slice A1 ks.length c1, .slice A2 kids.length c2])
        have b0 := HB.out.cell (j := 0) rfl
        have b1 := HB.out.cell (j := 1) rfl
        have b2 := HB.out.cell (j := 2) rfl
        have b3 := HB.out.cell (j := 3) rfl
        have b4 := HB.out.cell (j := 4) rfl
        have b5 := HB.out.cell (j := 5) rfl
        go_enter Tryz.func32, Tryz.ntmps32
        go_wp2_with fail
        refine (HJ.out _).mono ?_
        rintro e w0 ⟨rfl, rfl⟩
        go_wp2_with fail
        go_ret
        exact ⟨by rw [Hn.out]; rfl, HB.out.1⟩
    obtain rfl : s = ⟨#[]⟩ := by apply ByteArray.ext; exact Array.eq_empty_of_size_eq_zero hS
    by_cases hK : ks.length = 0
    rotate_left
    · skip
      have eK : (0 : Int) < ks.length := by omega
      · have Hn := Lib.hid (HNO.out (fun h => by have := h.1.2.2.2.2.2.1 (by omega); omega))
        clear HNO HYES
        have HB := Lib.hid (Box.new 30 w [.int .i64 2, .bool true, .int .i64 0, .string ⟨#[]⟩, .slice A1 ks.length c1, .slice A2 kids.length c2])
        have b0 := HB.out.cell (j := 0) rfl
        have b1 := HB.out.cell (j := 1) rfl
        have b2 := HB.out.cell (j := 2) rfl
        have b3 := HB.out.cell (j := 3) rfl
        have b4 := HB.out.cell (j := 4) rfl
        have b5 := HB.out.cell (j := 5) rfl
        go_enter Tryz.func32, Tryz.ntmps32
        go_wp2_with fail
        refine (HJ.out _).mono ?_
        rintro e w0 ⟨rfl, rfl⟩
        go_wp2_with fail
        go_ret
        exact ⟨by rw [Hn.out]; rfl, HB.out.1⟩
    obtain rfl : ks = [] := List.eq_nil_of_length_eq_zero hK
    by_cases hD : kids.length = 0
    rotate_left
    · skip
      have eD : (0 : Int) < kids.length := by omega
      · have Hn := Lib.hid (HNO.out (fun h => by have := h.1.2.2.2.2.2.2.1 (by omega); omega))
        clear HNO HYES
        have HB := Lib.hid (Box.new 30 w [.int .i64 2, .bool true, .int .i64 0, .string ⟨#[]⟩, .slice A1 0 c1, .slice A2 kids.length c2])
        have b0 := HB.out.cell (j := 0) rfl
        have b1 := HB.out.cell (j := 1) rfl
        have b2 := HB.out.cell (j := 2) rfl
        have b3 := HB.out.cell (j := 3) rfl
        have b4 := HB.out.cell (j := 4) rfl
        have b5 := HB.out.cell (j := 5) rfl
        go_enter Tryz.func32, Tryz.ntmps32
        go_wp2_with fail
        refine (HJ.out _).mono ?_
        rintro e w0 ⟨rfl, rfl⟩
        go_wp2_with fail
        go_ret
        exact ⟨by rw [Hn.out]; rfl, HB.out.1⟩
    obtain rfl : kids = [] := List.eq_nil_of_length_eq_zero hD
    by_cases hT : TextOk ⟨#[]⟩
    rotate_left
    · have Hn := Lib.hid (HNO.out (fun h => hT h.2.1))
      rw [dec_no hT] at HW
      clear HNO HYES
      have HB := Lib.hid (Box.new 30 w [.int .i64 2, .bool true, .int .i64 0, .string ⟨#[]⟩, .slice A1 0 c1, .slice A2 0 c2])
      have b0 := HB.out.cell (j := 0) rfl
      have b1 := HB.out.cell (j := 1) rfl
      have b2 := HB.out.cell (j := 2) rfl
      have b3 := HB.out.cell (j := 3) rfl
      have b4 := HB.out.cell (j := 4) rfl
      have b5 := HB.out.cell (j := 5) rfl
      go_enter Tryz.func32, Tryz.ntmps32
      go_wp2_with fail
      refine (HJ.out _).mono ?_
      rintro e w0 ⟨rfl, rfl⟩
      go_wp2_with fail
      refine (HW.out _).mono ?_
      rintro e w1 ⟨rfl, hb1⟩
      have HB1 := Lib.hid (HB.out.below hb1)
      clear hb1 b0 b1 b2 b3 b4 b5
      go_wp2_with fail
      go_ret
      exact ⟨by rw [Hn.out]; rfl, HB1.out.1⟩
    rw [dec_yes hT] at HW
    have HB := Lib.hid (Box.new 30 w [.int .i64 2, .bool true, .int .i64 0, .string ⟨#[]⟩, .slice A1 0 c1, .slice A2 0 c2])
    have b0 := HB.out.cell (j := 0) rfl
    have b1 := HB.out.cell (j := 1) rfl
    have b2 := HB.out.cell (j := 2) rfl
    have b3 := HB.out.cell (j := 3) rfl
    have b4 := HB.out.cell (j := 4) rfl
    have b5 := HB.out.cell (j := 5) rfl
    go_enter Tryz.func32, Tryz.ntmps32
    go_wp2_with fail
    refine (HJ.out _).mono ?_
    rintro e w0 ⟨rfl, rfl⟩
    go_wp2_with fail
    refine (HW.out _).mono ?_
    rintro e w1 ⟨rfl, hb1⟩
    have HB1 := Lib.hid (HB.out.below hb1)
    clear hb1 b0 b1 b2 b3 b4 b5
    have b0 := HB1.out.cell (j := 0) rfl
    have b4 := HB1.out.cell (j := 4) rfl
    have b5 := HB1.out.cell (j := 5) rfl
    go_wp2_with fail
    go_loopw [3] (fun i wr => i = .int .i64 0 ∧ Box 30 w [.int .i64 2, .bool true, .int .i64 0, .string ⟨#[]⟩, .slice A1 0 c1, .slice A2 0 c2] wr) (fun _ _ => 0)
    case atStart => exact ⟨rfl, HB1.out⟩
    case round =>
      obtain ⟨rfl, hbox⟩ := hrel
      clear HB1 b0 b4 b5
      have p4 := hbox.cell (j := 4) rfl
      have p5 := hbox.cell (j := 5) rfl
      have Hb2 := Lib.hid hbox
      clear hbox
      have Hkey := Lib.hid (show KeysOk [] from fun i h => absurd h (Nat.not_lt_zero _))
      go_wp2_with fail
      clear p4 p5
      go_loopw [4] (fun i wr => i = .int .i64 0 ∧ Box 30 w [.int .i64 2, .bool true, .int .i64 0, .string ⟨#[]⟩, .slice A1 0 c1, .slice A2 0 c2] wr) (fun _ _ => 0)
      case atStart => exact ⟨rfl, Hb2.out⟩
      case round =>
        obtain ⟨rfl, hbox⟩ := hrel
        clear Hb2
        have p5 := hbox.cell (j := 5) rfl
        have Hb3 := Lib.hid hbox
        clear hbox
        have Hy := Lib.hid (HYES.out ⟨⟨by decide, by decide, (by first | (intro _; rfl) | (intro _; decide) | (intro h; exact absurd h (by decide)) | (intro h; exact absurd rfl h) | (intro _; exact HL.out)), (by first | (intro _; rfl) | (intro _; decide) | (intro h; exact absurd h (by decide)) | (intro h; exact absurd rfl h) | (intro _; exact HL.out)), (by first | (intro _; rfl) | (intro _; decide) | (intro h; exact absurd h (by decide)) | (intro h; exact absurd rfl h) | (intro _; exact HL.out)), (by first | (intro _; rfl) | (intro _; decide) | (intro h; exact absurd h (by decide)) | (intro h; exact absurd rfl h) | (intro _; exact HL.out)), (by first | (intro _; rfl) | (intro _; decide) | (intro h; exact absurd h (by decide)) | (intro h; exact absurd rfl h) | (intro _; exact HL.out)), (by first | (intro _; rfl) | (intro _; decide) | (intro h; exact absurd h (by decide)) | (intro h; exact absurd rfl h) | (intro _; exact HL.out))⟩, hT, Hkey.out, fun x hx => by simp at hx⟩)
        clear HYES HNO
        go_wp2_with fail
        go_ret
        exact ⟨by rw [Hy.out]; rfl, Hb3.out.1⟩
set_option maxRecDepth 100000 in
set_option maxHeartbeats 16000000 in
theorem shape_3 {f : Nat} (IH0 : ShapeAt f) (fl : Bool) (n : Int) (s : ByteArray) (ks : List ByteArray) (kids : List T) (vs : List Value) (w : World) (h : LiesS w (f + 1) vs (row (.mk 3 fl n s ks kids))) :
    Calls Tryz.prog 32 #[.agg vs.toArray] w fun e w' => e = .returned (.bool (dec (Shape (.mk 3 fl n s ks kids)))) ∧ Below w.heap.size w w' := by
  obtain ⟨A1, c1, A2, c2, rfl, _, _, hs, hc1, hc2, hr, hks, hc3, hc4, f', hf, hk⟩ := open_tree h
  obtain rfl : f = f' := by omega
  unfold maxLen at hc2 hc4
  have HW := Lib.hid (fun w => spec_word s w hs)
  have HJ := Lib.hid (fun w => arith.in_yes 3 1 6 w (by decide) (by decide))
  have Hr := Lib.hid hr
  have Hks := Lib.hid hks
  have Hk := Lib.hid hk
  have IH := Lib.hid IH0
  obtain ⟨R, hR⟩ : ∃ R, dec (Shape (.mk 3 fl n s ks kids)) = R := ⟨_, rfl⟩
  rw [hR]
  have HNO := Lib.hid (fun (hne : ¬ (Fit 3 fl n s ks.length kids.length ∧ TextOk s ∧ KeysOk ks ∧ ∀ x ∈ kids, Shape x)) => hR.symm.trans (dec_no (fun h => hne (shape_iff.1 h))))
  have HYES := Lib.hid (fun (hy : Fit 3 fl n s ks.length kids.length ∧ TextOk s ∧ KeysOk ks ∧ ∀ x ∈ kids, Shape x) => hR.symm.trans (dec_yes (shape_iff.2 hy)))
  unfold Fit at HNO HYES
  clear h hf hr hks hk hR IH0 hs
  by_cases hF : fl = false
  rotate_left
  · skip
    obtain rfl : fl = true := by simpa using hF
    · have Hn := Lib.hid (HNO.out (fun h => by have := h.1.2.2.1 rfl; omega))
      clear HNO HYES
      have HB := Lib.hid (Box.new 30 w [.int .i64 3, .bool true, .int .i64 n, .string s, .slice A1 ks.length c1, .slice A2 kids.length c2])
      have b0 := HB.out.cell (j := 0) rfl
      have b1 := HB.out.cell (j := 1) rfl
      have b2 := HB.out.cell (j := 2) rfl
      have b3 := HB.out.cell (j := 3) rfl
      have b4 := HB.out.cell (j := 4) rfl
      have b5 := HB.out.cell (j := 5) rfl
      go_enter Tryz.func32, Tryz.ntmps32
      go_wp2_with fail
      refine (HJ.out _).mono ?_
      rintro e w0 ⟨rfl, rfl⟩
      go_wp2_with fail
      go_ret
      exact ⟨by rw [Hn.out]; rfl, HB.out.1⟩
  subst hF
  by_cases hN : n = 0
  · skip
    subst hN
    by_cases hS : s.size = 0
    rotate_left
    · skip
      have eS := empty_no (f := s) (by omega)
      · have Hn := Lib.hid (HNO.out (fun h => by have := h.1.2.2.2.2.1 (by omega); omega))
        clear HNO HYES
        have HB := Lib.hid (Box.new 30 w [.int .i64 3, .bool false, .int .i64 0, .string s, .slice A1 ks.length c1, .slice A2 kids.length c2])
        have b0 := HB.out.cell (j := 0) rfl
        have b1 := HB.out.cell (j := 1) rfl
        have b2 := HB.out.cell (j := 2) rfl
        have b3 := HB.out.cell (j := 3) rfl
        have b4 := HB.out.cell (j := 4) rfl
        have b5 := HB.out.cell (j := 5) rfl
        go_enter Tryz.func32, Tryz.ntmps32
        go_wp2_with fail
        refine (HJ.out _).mono ?_
        rintro e w0 ⟨rfl, rfl⟩
        go_wp2_with fail
        go_ret
        exact ⟨by rw [Hn.out]; rfl, HB.out.1⟩
    obtain rfl : s = ⟨#[]⟩ := by apply ByteArray.ext; exact Array.eq_empty_of_size_eq_zero hS
    by_cases hK : ks.length = 0
    rotate_left
    · skip
      have eK : (0 : Int) < ks.length := by omega
      · have Hn := Lib.hid (HNO.out (fun h => by have := h.1.2.2.2.2.2.1 (by omega); omega))
        clear HNO HYES
        have HB := Lib.hid (Box.new 30 w [.int .i64 3, .bool false, .int .i64 0, .string ⟨#[]⟩, .slice A1 ks.length c1, .slice A2 kids.length c2])
        have b0 := HB.out.cell (j := 0) rfl
        have b1 := HB.out.cell (j := 1) rfl
        have b2 := HB.out.cell (j := 2) rfl
        have b3 := HB.out.cell (j := 3) rfl
        have b4 := HB.out.cell (j := 4) rfl
        have b5 := HB.out.cell (j := 5) rfl
        go_enter Tryz.func32, Tryz.ntmps32
        go_wp2_with fail
        refine (HJ.out _).mono ?_
        rintro e w0 ⟨rfl, rfl⟩
        go_wp2_with fail
        go_ret
        exact ⟨by rw [Hn.out]; rfl, HB.out.1⟩
    obtain rfl : ks = [] := List.eq_nil_of_length_eq_zero hK
    by_cases hD : kids.length = 0
    rotate_left
    · skip
      have eD : (0 : Int) < kids.length := by omega
      · have Hn := Lib.hid (HNO.out (fun h => by have := h.1.2.2.2.2.2.2.1 (by omega); omega))
        clear HNO HYES
        have HB := Lib.hid (Box.new 30 w [.int .i64 3, .bool false, .int .i64 0, .string ⟨#[]⟩, .slice A1 0 c1, .slice A2 kids.length c2])
        have b0 := HB.out.cell (j := 0) rfl
        have b1 := HB.out.cell (j := 1) rfl
        have b2 := HB.out.cell (j := 2) rfl
        have b3 := HB.out.cell (j := 3) rfl
        have b4 := HB.out.cell (j := 4) rfl
        have b5 := HB.out.cell (j := 5) rfl
        go_enter Tryz.func32, Tryz.ntmps32
        go_wp2_with fail
        refine (HJ.out _).mono ?_
        rintro e w0 ⟨rfl, rfl⟩
        go_wp2_with fail
        go_ret
        exact ⟨by rw [Hn.out]; rfl, HB.out.1⟩
    obtain rfl : kids = [] := List.eq_nil_of_length_eq_zero hD
    by_cases hT : TextOk ⟨#[]⟩
    rotate_left
    · have Hn := Lib.hid (HNO.out (fun h => hT h.2.1))
      rw [dec_no hT] at HW
      clear HNO HYES
      have HB := Lib.hid (Box.new 30 w [.int .i64 3, .bool false, .int .i64 0, .string ⟨#[]⟩, .slice A1 0 c1, .slice A2 0 c2])
      have b0 := HB.out.cell (j := 0) rfl
      have b1 := HB.out.cell (j := 1) rfl
      have b2 := HB.out.cell (j := 2) rfl
      have b3 := HB.out.cell (j := 3) rfl
      have b4 := HB.out.cell (j := 4) rfl
      have b5 := HB.out.cell (j := 5) rfl
      go_enter Tryz.func32, Tryz.ntmps32
      go_wp2_with fail
      refine (HJ.out _).mono ?_
      rintro e w0 ⟨rfl, rfl⟩
      go_wp2_with fail
      refine (HW.out _).mono ?_
      rintro e w1 ⟨rfl, hb1⟩
      have HB1 := Lib.hid (HB.out.below hb1)
      clear hb1 b0 b1 b2 b3 b4 b5
      go_wp2_with fail
      go_ret
      exact ⟨by rw [Hn.out]; rfl, HB1.out.1⟩
    rw [dec_yes hT] at HW
    have HB := Lib.hid (Box.new 30 w [.int .i64 3, .bool false, .int .i64 0, .string ⟨#[]⟩, .slice A1 0 c1, .slice A2 0 c2])
    have b0 := HB.out.cell (j := 0) rfl
    have b1 := HB.out.cell (j := 1) rfl
    have b2 := HB.out.cell (j := 2) rfl
    have b3 := HB.out.cell (j := 3) rfl
    have b4 := HB.out.cell (j := 4) rfl
    have b5 := HB.out.cell (j := 5) rfl
    go_enter Tryz.func32, Tryz.ntmps32
    go_wp2_with fail
    refine (HJ.out _).mono ?_
    rintro e w0 ⟨rfl, rfl⟩
    go_wp2_with fail
    refine (HW.out _).mono ?_
    rintro e w1 ⟨rfl, hb1⟩
    have HB1 := Lib.hid (HB.out.below hb1)
    clear hb1 b0 b1 b2 b3 b4 b5
    have b0 := HB1.out.cell (j := 0) rfl
    have b4 := HB1.out.cell (j := 4) rfl
    have b5 := HB1.out.cell (j := 5) rfl
    go_wp2_with fail
    go_loopw [3] (fun i wr => i = .int .i64 0 ∧ Box 30 w [.int .i64 3, .bool false, .int .i64 0, .string ⟨#[]⟩, .slice A1 0 c1, .slice A2 0 c2] wr) (fun _ _ => 0)
    case atStart => exact ⟨rfl, HB1.out⟩
    case round =>
      obtain ⟨rfl, hbox⟩ := hrel
      clear HB1 b0 b4 b5
      have p4 := hbox.cell (j := 4) rfl
      have p5 := hbox.cell (j := 5) rfl
      have Hb2 := Lib.hid hbox
      clear hbox
      have Hkey := Lib.hid (show KeysOk [] from fun i h => absurd h (Nat.not_lt_zero _))
      go_wp2_with fail
      clear p4 p5
      go_loopw [4] (fun i wr => i = .int .i64 0 ∧ Box 30 w [.int .i64 3, .bool false, .int .i64 0, .string ⟨#[]⟩, .slice A1 0 c1, .slice A2 0 c2] wr) (fun _ _ => 0)
      case atStart => exact ⟨rfl, Hb2.out⟩
      case round =>
        obtain ⟨rfl, hbox⟩ := hrel
        clear Hb2
        have p5 := hbox.cell (j := 5) rfl
        have Hb3 := Lib.hid hbox
        clear hbox
        have Hy := Lib.hid (HYES.out ⟨⟨by decide, by decide, (by first | (intro _; rfl) | (intro _; decide) | (intro h; exact absurd h (by decide)) | (intro h; exact absurd rfl h) | (intro _; exact HL.out)), (by first | (intro _; rfl) | (intro _; decide) | (intro h; exact absurd h (by decide)) | (intro h; exact absurd rfl h) | (intro _; exact HL.out)), (by first | (intro _; rfl) | (intro _; decide) | (intro h; exact absurd h (by decide)) | (intro h; exact absurd rfl h) | (intro _; exact HL.out)), (by first | (intro _; rfl) | (intro _; decide) | (intro h; exact absurd h (by decide)) | (intro h; exact absurd rfl h) | (intro _; exact HL.out)), (by first | (intro _; rfl) | (intro _; decide) | (intro h; exact absurd h (by decide)) | (intro h; exact absurd rfl h) | (intro _; exact HL.out)), (by first | (intro _; rfl) | (intro _; decide) | (intro h; exact absurd h (by decide)) | (intro h; exact absurd rfl h) | (intro _; exact HL.out))⟩, hT, Hkey.out, fun x hx => by simp at hx⟩)
        clear HYES HNO
        go_wp2_with fail
        go_ret
        exact ⟨by rw [Hy.out]; rfl, Hb3.out.1⟩
  · skip
    have eN : (n != 0) = true := bne_iff_ne.2 hN
    by_cases hS : s.size = 0
    rotate_left
    · skip
      have eS := empty_no (f := s) (by omega)
      · have Hn := Lib.hid (HNO.out (fun h => by have := h.1.2.2.2.2.1 (by omega); omega))
        clear HNO HYES
        have HB := Lib.hid (Box.new 30 w [.int .i64 3, .bool false, .int .i64 n, .string s, .slice A1 ks.length c1, .slice A2 kids.length c2])
        have b0 := HB.out.cell (j := 0) rfl
        have b1 := HB.out.cell (j := 1) rfl
        have b2 := HB.out.cell (j := 2) rfl
        have b3 := HB.out.cell (j := 3) rfl
        have b4 := HB.out.cell (j := 4) rfl
        have b5 := HB.out.cell (j := 5) rfl
        go_enter Tryz.func32, Tryz.ntmps32
        go_wp2_with fail
        refine (HJ.out _).mono ?_
        rintro e w0 ⟨rfl, rfl⟩
        go_wp2_with fail
        go_ret
        exact ⟨by rw [Hn.out]; rfl, HB.out.1⟩
    obtain rfl : s = ⟨#[]⟩ := by apply ByteArray.ext; exact Array.eq_empty_of_size_eq_zero hS
    by_cases hK : ks.length = 0
    rotate_left
    · skip
      have eK : (0 : Int) < ks.length := by omega
      · have Hn := Lib.hid (HNO.out (fun h => by have := h.1.2.2.2.2.2.1 (by omega); omega))
        clear HNO HYES
        have HB := Lib.hid (Box.new 30 w [.int .i64 3, .bool false, .int .i64 n, .string ⟨#[]⟩, .slice A1 ks.length c1, .slice A2 kids.length c2])
        have b0 := HB.out.cell (j := 0) rfl
        have b1 := HB.out.cell (j := 1) rfl
        have b2 := HB.out.cell (j := 2) rfl
        have b3 := HB.out.cell (j := 3) rfl
        have b4 := HB.out.cell (j := 4) rfl
        have b5 := HB.out.cell (j := 5) rfl
        go_enter Tryz.func32, Tryz.ntmps32
        go_wp2_with fail
        refine (HJ.out _).mono ?_
        rintro e w0 ⟨rfl, rfl⟩
        go_wp2_with fail
        go_ret
        exact ⟨by rw [Hn.out]; rfl, HB.out.1⟩
    obtain rfl : ks = [] := List.eq_nil_of_length_eq_zero hK
    by_cases hD : kids.length = 0
    rotate_left
    · skip
      have eD : (0 : Int) < kids.length := by omega
      · have Hn := Lib.hid (HNO.out (fun h => by have := h.1.2.2.2.2.2.2.1 (by omega); omega))
        clear HNO HYES
        have HB := Lib.hid (Box.new 30 w [.int .i64 3, .bool false, .int .i64 n, .string ⟨#[]⟩, .slice A1 0 c1, .slice A2 kids.length c2])
        have b0 := HB.out.cell (j := 0) rfl
        have b1 := HB.out.cell (j := 1) rfl
        have b2 := HB.out.cell (j := 2) rfl
        have b3 := HB.out.cell (j := 3) rfl
        have b4 := HB.out.cell (j := 4) rfl
        have b5 := HB.out.cell (j := 5) rfl
        go_enter Tryz.func32, Tryz.ntmps32
        go_wp2_with fail
        refine (HJ.out _).mono ?_
        rintro e w0 ⟨rfl, rfl⟩
        go_wp2_with fail
        go_ret
        exact ⟨by rw [Hn.out]; rfl, HB.out.1⟩
    obtain rfl : kids = [] := List.eq_nil_of_length_eq_zero hD
    by_cases hT : TextOk ⟨#[]⟩
    rotate_left
    · have Hn := Lib.hid (HNO.out (fun h => hT h.2.1))
      rw [dec_no hT] at HW
      clear HNO HYES
      have HB := Lib.hid (Box.new 30 w [.int .i64 3, .bool false, .int .i64 n, .string ⟨#[]⟩, .slice A1 0 c1, .slice A2 0 c2])
      have b0 := HB.out.cell (j := 0) rfl
      have b1 := HB.out.cell (j := 1) rfl
      have b2 := HB.out.cell (j := 2) rfl
      have b3 := HB.out.cell (j := 3) rfl
      have b4 := HB.out.cell (j := 4) rfl
      have b5 := HB.out.cell (j := 5) rfl
      go_enter Tryz.func32, Tryz.ntmps32
      go_wp2_with fail
      refine (HJ.out _).mono ?_
      rintro e w0 ⟨rfl, rfl⟩
      go_wp2_with fail
      refine (HW.out _).mono ?_
      rintro e w1 ⟨rfl, hb1⟩
      have HB1 := Lib.hid (HB.out.below hb1)
      clear hb1 b0 b1 b2 b3 b4 b5
      go_wp2_with fail
      go_ret
      exact ⟨by rw [Hn.out]; rfl, HB1.out.1⟩
    rw [dec_yes hT] at HW
    have HB := Lib.hid (Box.new 30 w [.int .i64 3, .bool false, .int .i64 n, .string ⟨#[]⟩, .slice A1 0 c1, .slice A2 0 c2])
    have b0 := HB.out.cell (j := 0) rfl
    have b1 := HB.out.cell (j := 1) rfl
    have b2 := HB.out.cell (j := 2) rfl
    have b3 := HB.out.cell (j := 3) rfl
    have b4 := HB.out.cell (j := 4) rfl
    have b5 := HB.out.cell (j := 5) rfl
    go_enter Tryz.func32, Tryz.ntmps32
    go_wp2_with fail
    refine (HJ.out _).mono ?_
    rintro e w0 ⟨rfl, rfl⟩
    go_wp2_with fail
    refine (HW.out _).mono ?_
    rintro e w1 ⟨rfl, hb1⟩
    have HB1 := Lib.hid (HB.out.below hb1)
    clear hb1 b0 b1 b2 b3 b4 b5
    have b0 := HB1.out.cell (j := 0) rfl
    have b4 := HB1.out.cell (j := 4) rfl
    have b5 := HB1.out.cell (j := 5) rfl
    go_wp2_with fail
    go_loopw [3] (fun i wr => i = .int .i64 0 ∧ Box 30 w [.int .i64 3, .bool false, .int .i64 n, .string ⟨#[]⟩, .slice A1 0 c1, .slice A2 0 c2] wr) (fun _ _ => 0)
    case atStart => exact ⟨rfl, HB1.out⟩
    case round =>
      obtain ⟨rfl, hbox⟩ := hrel
      clear HB1 b0 b4 b5
      have p4 := hbox.cell (j := 4) rfl
      have p5 := hbox.cell (j := 5) rfl
      have Hb2 := Lib.hid hbox
      clear hbox
      have Hkey := Lib.hid (show KeysOk [] from fun i h => absurd h (Nat.not_lt_zero _))
      go_wp2_with fail
      clear p4 p5
      go_loopw [4] (fun i wr => i = .int .i64 0 ∧ Box 30 w [.int .i64 3, .bool false, .int .i64 n, .string ⟨#[]⟩, .slice A1 0 c1, .slice A2 0 c2] wr) (fun _ _ => 0)
      case atStart => exact ⟨rfl, Hb2.out⟩
      case round =>
        obtain ⟨rfl, hbox⟩ := hrel
        clear Hb2
        have p5 := hbox.cell (j := 5) rfl
        have Hb3 := Lib.hid hbox
        clear hbox
        have Hy := Lib.hid (HYES.out ⟨⟨by decide, by decide, (by first | (intro _; rfl) | (intro _; decide) | (intro h; exact absurd h (by decide)) | (intro h; exact absurd rfl h) | (intro _; exact HL.out)), (by first | (intro _; rfl) | (intro _; decide) | (intro h; exact absurd h (by decide)) | (intro h; exact absurd rfl h) | (intro _; exact HL.out)), (by first | (intro _; rfl) | (intro _; decide) | (intro h; exact absurd h (by decide)) | (intro h; exact absurd rfl h) | (intro _; exact HL.out)), (by first | (intro _; rfl) | (intro _; decide) | (intro h; exact absurd h (by decide)) | (intro h; exact absurd rfl h) | (intro _; exact HL.out)), (by first | (intro _; rfl) | (intro _; decide) | (intro h; exact absurd h (by decide)) | (intro h; exact absurd rfl h) | (intro _; exact HL.out)), (by first | (intro _; rfl) | (intro _; decide) | (intro h; exact absurd h (by decide)) | (intro h; exact absurd rfl h) | (intro _; exact HL.out))⟩, hT, Hkey.out, fun x hx => by simp at hx⟩)
        clear HYES HNO
        go_wp2_with fail
        go_ret
        exact ⟨by rw [Hy.out]; rfl, Hb3.out.1⟩
set_option maxRecDepth 100000 in
set_option maxHeartbeats 16000000 in
theorem shape_4 {f : Nat} (IH0 : ShapeAt f) (fl : Bool) (n : Int) (s : ByteArray) (ks : List ByteArray) (kids : List T) (vs : List Value) (w : World) (h : LiesS w (f + 1) vs (row (.mk 4 fl n s ks kids))) :
    Calls Tryz.prog 32 #[.agg vs.toArray] w fun e w' => e = .returned (.bool (dec (Shape (.mk 4 fl n s ks kids)))) ∧ Below w.heap.size w w' := by
  obtain ⟨A1, c1, A2, c2, rfl, _, _, hs, hc1, hc2, hr, hks, hc3, hc4, f', hf, hk⟩ := open_tree h
  obtain rfl : f = f' := by omega
  unfold maxLen at hc2 hc4
  have HW := Lib.hid (fun w => spec_word s w hs)
  have HJ := Lib.hid (fun w => arith.in_yes 4 1 6 w (by decide) (by decide))
  have Hr := Lib.hid hr
  have Hks := Lib.hid hks
  have Hk := Lib.hid hk
  have IH := Lib.hid IH0
  obtain ⟨R, hR⟩ : ∃ R, dec (Shape (.mk 4 fl n s ks kids)) = R := ⟨_, rfl⟩
  rw [hR]
  have HNO := Lib.hid (fun (hne : ¬ (Fit 4 fl n s ks.length kids.length ∧ TextOk s ∧ KeysOk ks ∧ ∀ x ∈ kids, Shape x)) => hR.symm.trans (dec_no (fun h => hne (shape_iff.1 h))))
  have HYES := Lib.hid (fun (hy : Fit 4 fl n s ks.length kids.length ∧ TextOk s ∧ KeysOk ks ∧ ∀ x ∈ kids, Shape x) => hR.symm.trans (dec_yes (shape_iff.2 hy)))
  unfold Fit at HNO HYES
  clear h hf hr hks hk hR IH0 hs
  by_cases hF : fl = false
  rotate_left
  · skip
    obtain rfl : fl = true := by simpa using hF
    · have Hn := Lib.hid (HNO.out (fun h => by have := h.1.2.2.1 rfl; omega))
      clear HNO HYES
      have HB := Lib.hid (Box.new 30 w [.int .i64 4, .bool true, .int .i64 n, .string s, .slice A1 ks.length c1, .slice A2 kids.length c2])
      have b0 := HB.out.cell (j := 0) rfl
      have b1 := HB.out.cell (j := 1) rfl
      have b2 := HB.out.cell (j := 2) rfl
      have b3 := HB.out.cell (j := 3) rfl
      have b4 := HB.out.cell (j := 4) rfl
      have b5 := HB.out.cell (j := 5) rfl
      go_enter Tryz.func32, Tryz.ntmps32
      go_wp2_with fail
      refine (HJ.out _).mono ?_
      rintro e w0 ⟨rfl, rfl⟩
      go_wp2_with fail
      go_ret
      exact ⟨by rw [Hn.out]; rfl, HB.out.1⟩
  subst hF
  by_cases hN : n = 0
  rotate_left
  · skip
    have eN : (n != 0) = true := bne_iff_ne.2 hN
    · have Hn := Lib.hid (HNO.out (fun h => by have := h.1.2.2.2.1 hN; omega))
      clear HNO HYES
      have HB := Lib.hid (Box.new 30 w [.int .i64 4, .bool false, .int .i64 n, .string s, .slice A1 ks.length c1, .slice A2 kids.length c2])
      have b0 := HB.out.cell (j := 0) rfl
      have b1 := HB.out.cell (j := 1) rfl
      have b2 := HB.out.cell (j := 2) rfl
      have b3 := HB.out.cell (j := 3) rfl
      have b4 := HB.out.cell (j := 4) rfl
      have b5 := HB.out.cell (j := 5) rfl
      go_enter Tryz.func32, Tryz.ntmps32
      go_wp2_with fail
      refine (HJ.out _).mono ?_
      rintro e w0 ⟨rfl, rfl⟩
      go_wp2_with fail
      go_ret
      exact ⟨by rw [Hn.out]; rfl, HB.out.1⟩
  subst hN
  by_cases hS : s.size = 0
  · skip
    obtain rfl : s = ⟨#[]⟩ := by apply ByteArray.ext; exact Array.eq_empty_of_size_eq_zero hS
    by_cases hK : ks.length = 0
    rotate_left
    · skip
      have eK : (0 : Int) < ks.length := by omega
      · have Hn := Lib.hid (HNO.out (fun h => by have := h.1.2.2.2.2.2.1 (by omega); omega))
        clear HNO HYES
        have HB := Lib.hid (Box.new 30 w [.int .i64 4, .bool false, .int .i64 0, .string ⟨#[]⟩, .slice A1 ks.length c1, .slice A2 kids.length c2])
        have b0 := HB.out.cell (j := 0) rfl
        have b1 := HB.out.cell (j := 1) rfl
        have b2 := HB.out.cell (j := 2) rfl
        have b3 := HB.out.cell (j := 3) rfl
        have b4 := HB.out.cell (j := 4) rfl
        have b5 := HB.out.cell (j := 5) rfl
        go_enter Tryz.func32, Tryz.ntmps32
        go_wp2_with fail
        refine (HJ.out _).mono ?_
        rintro e w0 ⟨rfl, rfl⟩
        go_wp2_with fail
        go_ret
        exact ⟨by rw [Hn.out]; rfl, HB.out.1⟩
    obtain rfl : ks = [] := List.eq_nil_of_length_eq_zero hK
    by_cases hD : kids.length = 0
    rotate_left
    · skip
      have eD : (0 : Int) < kids.length := by omega
      · have Hn := Lib.hid (HNO.out (fun h => by have := h.1.2.2.2.2.2.2.1 (by omega); omega))
        clear HNO HYES
        have HB := Lib.hid (Box.new 30 w [.int .i64 4, .bool false, .int .i64 0, .string ⟨#[]⟩, .slice A1 0 c1, .slice A2 kids.length c2])
        have b0 := HB.out.cell (j := 0) rfl
        have b1 := HB.out.cell (j := 1) rfl
        have b2 := HB.out.cell (j := 2) rfl
        have b3 := HB.out.cell (j := 3) rfl
        have b4 := HB.out.cell (j := 4) rfl
        have b5 := HB.out.cell (j := 5) rfl
        go_enter Tryz.func32, Tryz.ntmps32
        go_wp2_with fail
        refine (HJ.out _).mono ?_
        rintro e w0 ⟨rfl, rfl⟩
        go_wp2_with fail
        go_ret
        exact ⟨by rw [Hn.out]; rfl, HB.out.1⟩
    obtain rfl : kids = [] := List.eq_nil_of_length_eq_zero hD
    by_cases hT : TextOk ⟨#[]⟩
    rotate_left
    · have Hn := Lib.hid (HNO.out (fun h => hT h.2.1))
      rw [dec_no hT] at HW
      clear HNO HYES
      have HB := Lib.hid (Box.new 30 w [.int .i64 4, .bool false, .int .i64 0, .string ⟨#[]⟩, .slice A1 0 c1, .slice A2 0 c2])
      have b0 := HB.out.cell (j := 0) rfl
      have b1 := HB.out.cell (j := 1) rfl
      have b2 := HB.out.cell (j := 2) rfl
      have b3 := HB.out.cell (j := 3) rfl
      have b4 := HB.out.cell (j := 4) rfl
      have b5 := HB.out.cell (j := 5) rfl
      go_enter Tryz.func32, Tryz.ntmps32
      go_wp2_with fail
      refine (HJ.out _).mono ?_
      rintro e w0 ⟨rfl, rfl⟩
      go_wp2_with fail
      refine (HW.out _).mono ?_
      rintro e w1 ⟨rfl, hb1⟩
      have HB1 := Lib.hid (HB.out.below hb1)
      clear hb1 b0 b1 b2 b3 b4 b5
      go_wp2_with fail
      go_ret
      exact ⟨by rw [Hn.out]; rfl, HB1.out.1⟩
    rw [dec_yes hT] at HW
    have HB := Lib.hid (Box.new 30 w [.int .i64 4, .bool false, .int .i64 0, .string ⟨#[]⟩, .slice A1 0 c1, .slice A2 0 c2])
    have b0 := HB.out.cell (j := 0) rfl
    have b1 := HB.out.cell (j := 1) rfl
    have b2 := HB.out.cell (j := 2) rfl
    have b3 := HB.out.cell (j := 3) rfl
    have b4 := HB.out.cell (j := 4) rfl
    have b5 := HB.out.cell (j := 5) rfl
    go_enter Tryz.func32, Tryz.ntmps32
    go_wp2_with fail
    refine (HJ.out _).mono ?_
    rintro e w0 ⟨rfl, rfl⟩
    go_wp2_with fail
    refine (HW.out _).mono ?_
    rintro e w1 ⟨rfl, hb1⟩
    have HB1 := Lib.hid (HB.out.below hb1)
    clear hb1 b0 b1 b2 b3 b4 b5
    have b0 := HB1.out.cell (j := 0) rfl
    have b4 := HB1.out.cell (j := 4) rfl
    have b5 := HB1.out.cell (j := 5) rfl
    go_wp2_with fail
    go_loopw [3] (fun i wr => i = .int .i64 0 ∧ Box 30 w [.int .i64 4, .bool false, .int .i64 0, .string ⟨#[]⟩, .slice A1 0 c1, .slice A2 0 c2] wr) (fun _ _ => 0)
    case atStart => exact ⟨rfl, HB1.out⟩
    case round =>
      obtain ⟨rfl, hbox⟩ := hrel
      clear HB1 b0 b4 b5
      have p4 := hbox.cell (j := 4) rfl
      have p5 := hbox.cell (j := 5) rfl
      have Hb2 := Lib.hid hbox
      clear hbox
      have Hkey := Lib.hid (show KeysOk [] from fun i h => absurd h (Nat.not_lt_zero _))
      go_wp2_with fail
      clear p4 p5
      go_loopw [4] (fun i wr => i = .int .i64 0 ∧ Box 30 w [.int .i64 4, .bool false, .int .i64 0, .string ⟨#[]⟩, .slice A1 0 c1, .slice A2 0 c2] wr) (fun _ _ => 0)
      case atStart => exact ⟨rfl, Hb2.out⟩
      case round =>
        obtain ⟨rfl, hbox⟩ := hrel
        clear Hb2
        have p5 := hbox.cell (j := 5) rfl
        have Hb3 := Lib.hid hbox
        clear hbox
        have Hy := Lib.hid (HYES.out ⟨⟨by decide, by decide, (by first | (intro _; rfl) | (intro _; decide) | (intro h; exact absurd h (by decide)) | (intro h; exact absurd rfl h) | (intro _; exact HL.out)), (by first | (intro _; rfl) | (intro _; decide) | (intro h; exact absurd h (by decide)) | (intro h; exact absurd rfl h) | (intro _; exact HL.out)), (by first | (intro _; rfl) | (intro _; decide) | (intro h; exact absurd h (by decide)) | (intro h; exact absurd rfl h) | (intro _; exact HL.out)), (by first | (intro _; rfl) | (intro _; decide) | (intro h; exact absurd h (by decide)) | (intro h; exact absurd rfl h) | (intro _; exact HL.out)), (by first | (intro _; rfl) | (intro _; decide) | (intro h; exact absurd h (by decide)) | (intro h; exact absurd rfl h) | (intro _; exact HL.out)), (by first | (intro _; rfl) | (intro _; decide) | (intro h; exact absurd h (by decide)) | (intro h; exact absurd rfl h) | (intro _; exact HL.out))⟩, hT, Hkey.out, fun x hx => by simp at hx⟩)
        clear HYES HNO
        go_wp2_with fail
        go_ret
        exact ⟨by rw [Hy.out]; rfl, Hb3.out.1⟩
  · skip
    have eS := empty_no (f := s) (by omega)
    by_cases hK : ks.length = 0
    rotate_left
    · skip
      have eK : (0 : Int) < ks.length := by omega
      · have Hn := Lib.hid (HNO.out (fun h => by have := h.1.2.2.2.2.2.1 (by omega); omega))
        clear HNO HYES
        have HB := Lib.hid (Box.new 30 w [.int .i64 4, .bool false, .int .i64 0, .string s, .slice A1 ks.length c1, .slice A2 kids.length c2])
        have b0 := HB.out.cell (j := 0) rfl
        have b1 := HB.out.cell (j := 1) rfl
        have b2 := HB.out.cell (j := 2) rfl
        have b3 := HB.out.cell (j := 3) rfl
        have b4 := HB.out.cell (j := 4) rfl
        have b5 := HB.out.cell (j := 5) rfl
        go_enter Tryz.func32, Tryz.ntmps32
        go_wp2_with fail
        refine (HJ.out _).mono ?_
        rintro e w0 ⟨rfl, rfl⟩
        go_wp2_with fail
        go_ret
        exact ⟨by rw [Hn.out]; rfl, HB.out.1⟩
    obtain rfl : ks = [] := List.eq_nil_of_length_eq_zero hK
    by_cases hD : kids.length = 0
    rotate_left
    · skip
      have eD : (0 : Int) < kids.length := by omega
      · have Hn := Lib.hid (HNO.out (fun h => by have := h.1.2.2.2.2.2.2.1 (by omega); omega))
        clear HNO HYES
        have HB := Lib.hid (Box.new 30 w [.int .i64 4, .bool false, .int .i64 0, .string s, .slice A1 0 c1, .slice A2 kids.length c2])
        have b0 := HB.out.cell (j := 0) rfl
        have b1 := HB.out.cell (j := 1) rfl
        have b2 := HB.out.cell (j := 2) rfl
        have b3 := HB.out.cell (j := 3) rfl
        have b4 := HB.out.cell (j := 4) rfl
        have b5 := HB.out.cell (j := 5) rfl
        go_enter Tryz.func32, Tryz.ntmps32
        go_wp2_with fail
        refine (HJ.out _).mono ?_
        rintro e w0 ⟨rfl, rfl⟩
        go_wp2_with fail
        go_ret
        exact ⟨by rw [Hn.out]; rfl, HB.out.1⟩
    obtain rfl : kids = [] := List.eq_nil_of_length_eq_zero hD
    by_cases hT : TextOk s
    rotate_left
    · have Hn := Lib.hid (HNO.out (fun h => hT h.2.1))
      rw [dec_no hT] at HW
      clear HNO HYES
      have HB := Lib.hid (Box.new 30 w [.int .i64 4, .bool false, .int .i64 0, .string s, .slice A1 0 c1, .slice A2 0 c2])
      have b0 := HB.out.cell (j := 0) rfl
      have b1 := HB.out.cell (j := 1) rfl
      have b2 := HB.out.cell (j := 2) rfl
      have b3 := HB.out.cell (j := 3) rfl
      have b4 := HB.out.cell (j := 4) rfl
      have b5 := HB.out.cell (j := 5) rfl
      go_enter Tryz.func32, Tryz.ntmps32
      go_wp2_with fail
      refine (HJ.out _).mono ?_
      rintro e w0 ⟨rfl, rfl⟩
      go_wp2_with fail
      refine (HW.out _).mono ?_
      rintro e w1 ⟨rfl, hb1⟩
      have HB1 := Lib.hid (HB.out.below hb1)
      clear hb1 b0 b1 b2 b3 b4 b5
      go_wp2_with fail
      go_ret
      exact ⟨by rw [Hn.out]; rfl, HB1.out.1⟩
    rw [dec_yes hT] at HW
    have HB := Lib.hid (Box.new 30 w [.int .i64 4, .bool false, .int .i64 0, .string s, .slice A1 0 c1, .slice A2 0 c2])
    have b0 := HB.out.cell (j := 0) rfl
    have b1 := HB.out.cell (j := 1) rfl
    have b2 := HB.out.cell (j := 2) rfl
    have b3 := HB.out.cell (j := 3) rfl
    have b4 := HB.out.cell (j := 4) rfl
    have b5 := HB.out.cell (j := 5) rfl
    go_enter Tryz.func32, Tryz.ntmps32
    go_wp2_with fail
    refine (HJ.out _).mono ?_
    rintro e w0 ⟨rfl, rfl⟩
    go_wp2_with fail
    refine (HW.out _).mono ?_
    rintro e w1 ⟨rfl, hb1⟩
    have HB1 := Lib.hid (HB.out.below hb1)
    clear hb1 b0 b1 b2 b3 b4 b5
    have b0 := HB1.out.cell (j := 0) rfl
    have b4 := HB1.out.cell (j := 4) rfl
    have b5 := HB1.out.cell (j := 5) rfl
    go_wp2_with fail
    go_loopw [3] (fun i wr => i = .int .i64 0 ∧ Box 30 w [.int .i64 4, .bool false, .int .i64 0, .string s, .slice A1 0 c1, .slice A2 0 c2] wr) (fun _ _ => 0)
    case atStart => exact ⟨rfl, HB1.out⟩
    case round =>
      obtain ⟨rfl, hbox⟩ := hrel
      clear HB1 b0 b4 b5
      have p4 := hbox.cell (j := 4) rfl
      have p5 := hbox.cell (j := 5) rfl
      have Hb2 := Lib.hid hbox
      clear hbox
      have Hkey := Lib.hid (show KeysOk [] from fun i h => absurd h (Nat.not_lt_zero _))
      go_wp2_with fail
      clear p4 p5
      go_loopw [4] (fun i wr => i = .int .i64 0 ∧ Box 30 w [.int .i64 4, .bool false, .int .i64 0, .string s, .slice A1 0 c1, .slice A2 0 c2] wr) (fun _ _ => 0)
      case atStart => exact ⟨rfl, Hb2.out⟩
      case round =>
        obtain ⟨rfl, hbox⟩ := hrel
        clear Hb2
        have p5 := hbox.cell (j := 5) rfl
        have Hb3 := Lib.hid hbox
        clear hbox
        have Hy := Lib.hid (HYES.out ⟨⟨by decide, by decide, (by first | (intro _; rfl) | (intro _; decide) | (intro h; exact absurd h (by decide)) | (intro h; exact absurd rfl h) | (intro _; exact HL.out)), (by first | (intro _; rfl) | (intro _; decide) | (intro h; exact absurd h (by decide)) | (intro h; exact absurd rfl h) | (intro _; exact HL.out)), (by first | (intro _; rfl) | (intro _; decide) | (intro h; exact absurd h (by decide)) | (intro h; exact absurd rfl h) | (intro _; exact HL.out)), (by first | (intro _; rfl) | (intro _; decide) | (intro h; exact absurd h (by decide)) | (intro h; exact absurd rfl h) | (intro _; exact HL.out)), (by first | (intro _; rfl) | (intro _; decide) | (intro h; exact absurd h (by decide)) | (intro h; exact absurd rfl h) | (intro _; exact HL.out)), (by first | (intro _; rfl) | (intro _; decide) | (intro h; exact absurd h (by decide)) | (intro h; exact absurd rfl h) | (intro _; exact HL.out))⟩, hT, Hkey.out, fun x hx => by simp at hx⟩)
        clear HYES HNO
        go_wp2_with fail
        go_ret
        exact ⟨by rw [Hy.out]; rfl, Hb3.out.1⟩
set_option maxRecDepth 100000 in
set_option maxHeartbeats 16000000 in
theorem shape_5 {f : Nat} (IH0 : ShapeAt f) (fl : Bool) (n : Int) (s : ByteArray) (ks : List ByteArray) (kids : List T) (vs : List Value) (w : World) (h : LiesS w (f + 1) vs (row (.mk 5 fl n s ks kids))) :
    Calls Tryz.prog 32 #[.agg vs.toArray] w fun e w' => e = .returned (.bool (dec (Shape (.mk 5 fl n s ks kids)))) ∧ Below w.heap.size w w' := by
  obtain ⟨A1, c1, A2, c2, rfl, _, _, hs, hc1, hc2, hr, hks, hc3, hc4, f', hf, hk⟩ := open_tree h
  obtain rfl : f = f' := by omega
  unfold maxLen at hc2 hc4
  have HW := Lib.hid (fun w => spec_word s w hs)
  have HJ := Lib.hid (fun w => arith.in_yes 5 1 6 w (by decide) (by decide))
  have Hr := Lib.hid hr
  have Hks := Lib.hid hks
  have Hk := Lib.hid hk
  have IH := Lib.hid IH0
  obtain ⟨R, hR⟩ : ∃ R, dec (Shape (.mk 5 fl n s ks kids)) = R := ⟨_, rfl⟩
  rw [hR]
  have HNO := Lib.hid (fun (hne : ¬ (Fit 5 fl n s ks.length kids.length ∧ TextOk s ∧ KeysOk ks ∧ ∀ x ∈ kids, Shape x)) => hR.symm.trans (dec_no (fun h => hne (shape_iff.1 h))))
  have HYES := Lib.hid (fun (hy : Fit 5 fl n s ks.length kids.length ∧ TextOk s ∧ KeysOk ks ∧ ∀ x ∈ kids, Shape x) => hR.symm.trans (dec_yes (shape_iff.2 hy)))
  unfold Fit at HNO HYES
  clear h hf hr hks hk hR IH0 hs
  by_cases hF : fl = false
  rotate_left
  · skip
    obtain rfl : fl = true := by simpa using hF
    · have Hn := Lib.hid (HNO.out (fun h => by have := h.1.2.2.1 rfl; omega))
      clear HNO HYES
      have HB := Lib.hid (Box.new 30 w [.int .i64 5, .bool true, .int .i64 n, .string s, .slice A1 ks.length c1, .slice A2 kids.length c2])
      have b0 := HB.out.cell (j := 0) rfl
      have b1 := HB.out.cell (j := 1) rfl
      have b2 := HB.out.cell (j := 2) rfl
      have b3 := HB.out.cell (j := 3) rfl
      have b4 := HB.out.cell (j := 4) rfl
      have b5 := HB.out.cell (j := 5) rfl
      go_enter Tryz.func32, Tryz.ntmps32
      go_wp2_with fail
      refine (HJ.out _).mono ?_
      rintro e w0 ⟨rfl, rfl⟩
      go_wp2_with fail
      go_ret
      exact ⟨by rw [Hn.out]; rfl, HB.out.1⟩
  subst hF
  by_cases hN : n = 0
  rotate_left
  · skip
    have eN : (n != 0) = true := bne_iff_ne.2 hN
    · have Hn := Lib.hid (HNO.out (fun h => by have := h.1.2.2.2.1 hN; omega))
      clear HNO HYES
      have HB := Lib.hid (Box.new 30 w [.int .i64 5, .bool false, .int .i64 n, .string s, .slice A1 ks.length c1, .slice A2 kids.length c2])
      have b0 := HB.out.cell (j := 0) rfl
      have b1 := HB.out.cell (j := 1) rfl
      have b2 := HB.out.cell (j := 2) rfl
      have b3 := HB.out.cell (j := 3) rfl
      have b4 := HB.out.cell (j := 4) rfl
      have b5 := HB.out.cell (j := 5) rfl
      go_enter Tryz.func32, Tryz.ntmps32
      go_wp2_with fail
      refine (HJ.out _).mono ?_
      rintro e w0 ⟨rfl, rfl⟩
      go_wp2_with fail
      go_ret
      exact ⟨by rw [Hn.out]; rfl, HB.out.1⟩
  subst hN
  by_cases hS : s.size = 0
  rotate_left
  · skip
    have eS := empty_no (f := s) (by omega)
    · have Hn := Lib.hid (HNO.out (fun h => by have := h.1.2.2.2.2.1 (by omega); omega))
      clear HNO HYES
      have HB := Lib.hid (Box.new 30 w [.int .i64 5, .bool false, .int .i64 0, .string s, .slice A1 ks.length c1, .slice A2 kids.length c2])
      have b0 := HB.out.cell (j := 0) rfl
      have b1 := HB.out.cell (j := 1) rfl
      have b2 := HB.out.cell (j := 2) rfl
      have b3 := HB.out.cell (j := 3) rfl
      have b4 := HB.out.cell (j := 4) rfl
      have b5 := HB.out.cell (j := 5) rfl
      go_enter Tryz.func32, Tryz.ntmps32
      go_wp2_with fail
      refine (HJ.out _).mono ?_
      rintro e w0 ⟨rfl, rfl⟩
      go_wp2_with fail
      go_ret
      exact ⟨by rw [Hn.out]; rfl, HB.out.1⟩
  obtain rfl : s = ⟨#[]⟩ := by apply ByteArray.ext; exact Array.eq_empty_of_size_eq_zero hS
  by_cases hK : ks.length = 0
  rotate_left
  · skip
    have eK : (0 : Int) < ks.length := by omega
    · have Hn := Lib.hid (HNO.out (fun h => by have := h.1.2.2.2.2.2.1 (by omega); omega))
      clear HNO HYES
      have HB := Lib.hid (Box.new 30 w [.int .i64 5, .bool false, .int .i64 0, .string ⟨#[]⟩, .slice A1 ks.length c1, .slice A2 kids.length c2])
      have b0 := HB.out.cell (j := 0) rfl
      have b1 := HB.out.cell (j := 1) rfl
      have b2 := HB.out.cell (j := 2) rfl
      have b3 := HB.out.cell (j := 3) rfl
      have b4 := HB.out.cell (j := 4) rfl
      have b5 := HB.out.cell (j := 5) rfl
      go_enter Tryz.func32, Tryz.ntmps32
      go_wp2_with fail
      refine (HJ.out _).mono ?_
      rintro e w0 ⟨rfl, rfl⟩
      go_wp2_with fail
      go_ret
      exact ⟨by rw [Hn.out]; rfl, HB.out.1⟩
  obtain rfl : ks = [] := List.eq_nil_of_length_eq_zero hK
  by_cases hD : kids.length = 0
  · skip
    obtain rfl : kids = [] := List.eq_nil_of_length_eq_zero hD
    by_cases hT : TextOk ⟨#[]⟩
    rotate_left
    · have Hn := Lib.hid (HNO.out (fun h => hT h.2.1))
      rw [dec_no hT] at HW
      clear HNO HYES
      have HB := Lib.hid (Box.new 30 w [.int .i64 5, .bool false, .int .i64 0, .string ⟨#[]⟩, .slice A1 0 c1, .slice A2 0 c2])
      have b0 := HB.out.cell (j := 0) rfl
      have b1 := HB.out.cell (j := 1) rfl
      have b2 := HB.out.cell (j := 2) rfl
      have b3 := HB.out.cell (j := 3) rfl
      have b4 := HB.out.cell (j := 4) rfl
      have b5 := HB.out.cell (j := 5) rfl
      go_enter Tryz.func32, Tryz.ntmps32
      go_wp2_with fail
      refine (HJ.out _).mono ?_
      rintro e w0 ⟨rfl, rfl⟩
      go_wp2_with fail
      refine (HW.out _).mono ?_
      rintro e w1 ⟨rfl, hb1⟩
      have HB1 := Lib.hid (HB.out.below hb1)
      clear hb1 b0 b1 b2 b3 b4 b5
      go_wp2_with fail
      go_ret
      exact ⟨by rw [Hn.out]; rfl, HB1.out.1⟩
    rw [dec_yes hT] at HW
    have HB := Lib.hid (Box.new 30 w [.int .i64 5, .bool false, .int .i64 0, .string ⟨#[]⟩, .slice A1 0 c1, .slice A2 0 c2])
    have b0 := HB.out.cell (j := 0) rfl
    have b1 := HB.out.cell (j := 1) rfl
    have b2 := HB.out.cell (j := 2) rfl
    have b3 := HB.out.cell (j := 3) rfl
    have b4 := HB.out.cell (j := 4) rfl
    have b5 := HB.out.cell (j := 5) rfl
    go_enter Tryz.func32, Tryz.ntmps32
    go_wp2_with fail
    refine (HJ.out _).mono ?_
    rintro e w0 ⟨rfl, rfl⟩
    go_wp2_with fail
    refine (HW.out _).mono ?_
    rintro e w1 ⟨rfl, hb1⟩
    have HB1 := Lib.hid (HB.out.below hb1)
    clear hb1 b0 b1 b2 b3 b4 b5
    have b0 := HB1.out.cell (j := 0) rfl
    have b4 := HB1.out.cell (j := 4) rfl
    have b5 := HB1.out.cell (j := 5) rfl
    go_wp2_with fail
    go_loopw [3] (fun i wr => i = .int .i64 0 ∧ Box 30 w [.int .i64 5, .bool false, .int .i64 0, .string ⟨#[]⟩, .slice A1 0 c1, .slice A2 0 c2] wr) (fun _ _ => 0)
    case atStart => exact ⟨rfl, HB1.out⟩
    case round =>
      obtain ⟨rfl, hbox⟩ := hrel
      clear HB1 b0 b4 b5
      have p4 := hbox.cell (j := 4) rfl
      have p5 := hbox.cell (j := 5) rfl
      have Hb2 := Lib.hid hbox
      clear hbox
      have Hkey := Lib.hid (show KeysOk [] from fun i h => absurd h (Nat.not_lt_zero _))
      go_wp2_with fail
      clear p4 p5
      go_loopw [4] (fun i wr => i = .int .i64 0 ∧ Box 30 w [.int .i64 5, .bool false, .int .i64 0, .string ⟨#[]⟩, .slice A1 0 c1, .slice A2 0 c2] wr) (fun _ _ => 0)
      case atStart => exact ⟨rfl, Hb2.out⟩
      case round =>
        obtain ⟨rfl, hbox⟩ := hrel
        clear Hb2
        have p5 := hbox.cell (j := 5) rfl
        have Hb3 := Lib.hid hbox
        clear hbox
        have Hy := Lib.hid (HYES.out ⟨⟨by decide, by decide, (by first | (intro _; rfl) | (intro _; decide) | (intro h; exact absurd h (by decide)) | (intro h; exact absurd rfl h) | (intro _; exact HL.out)), (by first | (intro _; rfl) | (intro _; decide) | (intro h; exact absurd h (by decide)) | (intro h; exact absurd rfl h) | (intro _; exact HL.out)), (by first | (intro _; rfl) | (intro _; decide) | (intro h; exact absurd h (by decide)) | (intro h; exact absurd rfl h) | (intro _; exact HL.out)), (by first | (intro _; rfl) | (intro _; decide) | (intro h; exact absurd h (by decide)) | (intro h; exact absurd rfl h) | (intro _; exact HL.out)), (by first | (intro _; rfl) | (intro _; decide) | (intro h; exact absurd h (by decide)) | (intro h; exact absurd rfl h) | (intro _; exact HL.out)), (by first | (intro _; rfl) | (intro _; decide) | (intro h; exact absurd h (by decide)) | (intro h; exact absurd rfl h) | (intro _; exact HL.out))⟩, hT, Hkey.out, fun x hx => by simp at hx⟩)
        clear HYES HNO
        go_wp2_with fail
        go_ret
        exact ⟨by rw [Hy.out]; rfl, Hb3.out.1⟩
  · skip
    have eD : (0 : Int) < kids.length := by omega
    by_cases hT : TextOk ⟨#[]⟩
    rotate_left
    · have Hn := Lib.hid (HNO.out (fun h => hT h.2.1))
      rw [dec_no hT] at HW
      clear HNO HYES
      have HB := Lib.hid (Box.new 30 w [.int .i64 5, .bool false, .int .i64 0, .string ⟨#[]⟩, .slice A1 0 c1, .slice A2 kids.length c2])
      have b0 := HB.out.cell (j := 0) rfl
      have b1 := HB.out.cell (j := 1) rfl
      have b2 := HB.out.cell (j := 2) rfl
      have b3 := HB.out.cell (j := 3) rfl
      have b4 := HB.out.cell (j := 4) rfl
      have b5 := HB.out.cell (j := 5) rfl
      go_enter Tryz.func32, Tryz.ntmps32
      go_wp2_with fail
      refine (HJ.out _).mono ?_
      rintro e w0 ⟨rfl, rfl⟩
      go_wp2_with fail
      refine (HW.out _).mono ?_
      rintro e w1 ⟨rfl, hb1⟩
      have HB1 := Lib.hid (HB.out.below hb1)
      clear hb1 b0 b1 b2 b3 b4 b5
      go_wp2_with fail
      go_ret
      exact ⟨by rw [Hn.out]; rfl, HB1.out.1⟩
    rw [dec_yes hT] at HW
    have HB := Lib.hid (Box.new 30 w [.int .i64 5, .bool false, .int .i64 0, .string ⟨#[]⟩, .slice A1 0 c1, .slice A2 kids.length c2])
    have b0 := HB.out.cell (j := 0) rfl
    have b1 := HB.out.cell (j := 1) rfl
    have b2 := HB.out.cell (j := 2) rfl
    have b3 := HB.out.cell (j := 3) rfl
    have b4 := HB.out.cell (j := 4) rfl
    have b5 := HB.out.cell (j := 5) rfl
    go_enter Tryz.func32, Tryz.ntmps32
    go_wp2_with fail
    refine (HJ.out _).mono ?_
    rintro e w0 ⟨rfl, rfl⟩
    go_wp2_with fail
    refine (HW.out _).mono ?_
    rintro e w1 ⟨rfl, hb1⟩
    have HB1 := Lib.hid (HB.out.below hb1)
    clear hb1 b0 b1 b2 b3 b4 b5
    have b0 := HB1.out.cell (j := 0) rfl
    have b4 := HB1.out.cell (j := 4) rfl
    have b5 := HB1.out.cell (j := 5) rfl
    go_wp2_with fail
    go_loopw [3] (fun i wr => i = .int .i64 0 ∧ Box 30 w [.int .i64 5, .bool false, .int .i64 0, .string ⟨#[]⟩, .slice A1 0 c1, .slice A2 kids.length c2] wr) (fun _ _ => 0)
    case atStart => exact ⟨rfl, HB1.out⟩
    case round =>
      obtain ⟨rfl, hbox⟩ := hrel
      clear HB1 b0 b4 b5
      have p4 := hbox.cell (j := 4) rfl
      have p5 := hbox.cell (j := 5) rfl
      have Hb2 := Lib.hid hbox
      clear hbox
      have Hkey := Lib.hid (show KeysOk [] from fun i h => absurd h (Nat.not_lt_zero _))
      go_wp2_with fail
      clear p4 p5
      go_loopw [4] (fun i wr => ∃ j : Nat, j ≤ kids.length ∧ i = .int .i64 j ∧ Hid (∀ m x, m < j → kids[m]? = some x → Shape x) ∧ Box 30 w [.int .i64 5, .bool false, .int .i64 0, .string ⟨#[]⟩, .slice A1 0 c1, .slice A2 kids.length c2] wr) (fun i _ => kids.length - (intOf i).toNat)
      case atStart => exact ⟨0, Nat.zero_le _, rfl, fun m x hm => by omega, Hb2.out⟩
      case round =>
        clear Hb2
        obtain ⟨j, hj, rfl, hm, hbox⟩ := hrel
        have p5 := hbox.cell (j := 5) rfl
        by_cases hlt : j < kids.length
        · obtain ⟨g, o, rfl, hg, hkid⟩ := (Hk.out.below hbox.1) (by omega)
          obtain ⟨u0, u1, u2, u3, u4, u5, ⟨q0, q1, q2, q3, q4, q5⟩, hl⟩ := hkid j kids[j] (List.getElem?_eq_getElem hlt)
          have HC := Lib.hid (IH.out kids[j] _ wr hl)
          have Hbox := Lib.hid hbox
          by_cases hs : Shape kids[j]
          · rw [dec_yes hs] at HC
            have Hm := Lib.hid (show ∀ m x, m < j + 1 → kids[m]? = some x → Shape x from fun m x hmj hx => by
              by_cases e : m = j
              · subst e; rw [List.getElem?_eq_getElem hlt] at hx; injection hx with hx; rw [← hx]; exact hs
              · exact hm.out m x (by omega) hx)
            clear hl hkid hbox hm hg hs
            go_wp2_with fail
            refine HC.out.mono ?_
            rintro e w2 ⟨rfl, hb2⟩
            have Hbox2 := Lib.hid (Hbox.out.below hb2)
            clear HC Hbox hb2 p5 q0 q1 q2 q3 q4 q5
            go_wp2_with fail
            go_roundw
            case rel => exact ⟨j + 1, by omega, by go_num, Hm.out, Hbox2.out⟩
            case measure => simp [intOf]; omega
          · rw [dec_no hs] at HC
            have Hn := Lib.hid (HNO.out (fun h => hs (h.2.2.2 _ (List.getElem_mem hlt))))
            clear hl hkid hbox hm hg hs HNO HYES
            go_wp2_with fail
            refine HC.out.mono ?_
            rintro e w2 ⟨rfl, hb2⟩
            have Hbox2 := Lib.hid (Hbox.out.below hb2)
            clear HC Hbox hb2 p5 q0 q1 q2 q3 q4 q5
            go_wp2_with fail
            go_ret
            exact ⟨by rw [Hn.out]; rfl, Hbox2.out.1⟩
        · obtain rfl : j = kids.length := by omega
          have Hy := Lib.hid (HYES.out ⟨⟨by decide, by decide, (by first | (intro _; rfl) | (intro _; decide) | (intro h; exact absurd h (by decide)) | (intro h; exact absurd rfl h) | (intro _; exact HL.out)), (by first | (intro _; rfl) | (intro _; decide) | (intro h; exact absurd h (by decide)) | (intro h; exact absurd rfl h) | (intro _; exact HL.out)), (by first | (intro _; rfl) | (intro _; decide) | (intro h; exact absurd h (by decide)) | (intro h; exact absurd rfl h) | (intro _; exact HL.out)), (by first | (intro _; rfl) | (intro _; decide) | (intro h; exact absurd h (by decide)) | (intro h; exact absurd rfl h) | (intro _; exact HL.out)), (by first | (intro _; rfl) | (intro _; decide) | (intro h; exact absurd h (by decide)) | (intro h; exact absurd rfl h) | (intro _; exact HL.out)), (by first | (intro _; rfl) | (intro _; decide) | (intro h; exact absurd h (by decide)) | (intro h; exact absurd rfl h) | (intro _; exact HL.out))⟩, hT, Hkey.out, fun x hx => by
            obtain ⟨m, hlm, e⟩ := List.mem_iff_getElem.1 hx
            exact hm.out m x hlm (by rw [List.getElem?_eq_getElem hlm, e])⟩)
          have Hb3 := Lib.hid hbox
          clear hbox hm HYES HNO
          go_wp2_with fail
          go_ret
          exact ⟨by rw [Hy.out]; rfl, Hb3.out.1⟩
set_option maxRecDepth 100000 in
set_option maxHeartbeats 16000000 in
theorem shape_6 {f : Nat} (IH0 : ShapeAt f) (fl : Bool) (n : Int) (s : ByteArray) (ks : List ByteArray) (kids : List T) (vs : List Value) (w : World) (h : LiesS w (f + 1) vs (row (.mk 6 fl n s ks kids))) :
    Calls Tryz.prog 32 #[.agg vs.toArray] w fun e w' => e = .returned (.bool (dec (Shape (.mk 6 fl n s ks kids)))) ∧ Below w.heap.size w w' := by
  obtain ⟨A1, c1, A2, c2, rfl, _, _, hs, hc1, hc2, hr, hks, hc3, hc4, f', hf, hk⟩ := open_tree h
  obtain rfl : f = f' := by omega
  unfold maxLen at hc2 hc4
  have HW := Lib.hid (fun w => spec_word s w hs)
  have HJ := Lib.hid (fun w => arith.in_yes 6 1 6 w (by decide) (by decide))
  have Hr := Lib.hid hr
  have Hks := Lib.hid hks
  have Hk := Lib.hid hk
  have IH := Lib.hid IH0
  obtain ⟨R, hR⟩ : ∃ R, dec (Shape (.mk 6 fl n s ks kids)) = R := ⟨_, rfl⟩
  rw [hR]
  have HNO := Lib.hid (fun (hne : ¬ (Fit 6 fl n s ks.length kids.length ∧ TextOk s ∧ KeysOk ks ∧ ∀ x ∈ kids, Shape x)) => hR.symm.trans (dec_no (fun h => hne (shape_iff.1 h))))
  have HYES := Lib.hid (fun (hy : Fit 6 fl n s ks.length kids.length ∧ TextOk s ∧ KeysOk ks ∧ ∀ x ∈ kids, Shape x) => hR.symm.trans (dec_yes (shape_iff.2 hy)))
  unfold Fit at HNO HYES
  clear h hf hr hks hk hR IH0 hs
  by_cases hF : fl = false
  rotate_left
  · skip
    obtain rfl : fl = true := by simpa using hF
    · have Hn := Lib.hid (HNO.out (fun h => by have := h.1.2.2.1 rfl; omega))
      clear HNO HYES
      have HB := Lib.hid (Box.new 30 w [.int .i64 6, .bool true, .int .i64 n, .string s, .slice A1 ks.length c1, .slice A2 kids.length c2])
      have b0 := HB.out.cell (j := 0) rfl
      have b1 := HB.out.cell (j := 1) rfl
      have b2 := HB.out.cell (j := 2) rfl
      have b3 := HB.out.cell (j := 3) rfl
      have b4 := HB.out.cell (j := 4) rfl
      have b5 := HB.out.cell (j := 5) rfl
      go_enter Tryz.func32, Tryz.ntmps32
      go_wp2_with fail
      refine (HJ.out _).mono ?_
      rintro e w0 ⟨rfl, rfl⟩
      go_wp2_with fail
      go_ret
      exact ⟨by rw [Hn.out]; rfl, HB.out.1⟩
  subst hF
  by_cases hN : n = 0
  rotate_left
  · skip
    have eN : (n != 0) = true := bne_iff_ne.2 hN
    · have Hn := Lib.hid (HNO.out (fun h => by have := h.1.2.2.2.1 hN; omega))
      clear HNO HYES
      have HB := Lib.hid (Box.new 30 w [.int .i64 6, .bool false, .int .i64 n, .string s, .slice A1 ks.length c1, .slice A2 kids.length c2])
      have b0 := HB.out.cell (j := 0) rfl
      have b1 := HB.out.cell (j := 1) rfl
      have b2 := HB.out.cell (j := 2) rfl
      have b3 := HB.out.cell (j := 3) rfl
      have b4 := HB.out.cell (j := 4) rfl
      have b5 := HB.out.cell (j := 5) rfl
      go_enter Tryz.func32, Tryz.ntmps32
      go_wp2_with fail
      refine (HJ.out _).mono ?_
      rintro e w0 ⟨rfl, rfl⟩
      go_wp2_with fail
      go_ret
      exact ⟨by rw [Hn.out]; rfl, HB.out.1⟩
  subst hN
  by_cases hS : s.size = 0
  rotate_left
  · skip
    have eS := empty_no (f := s) (by omega)
    · have Hn := Lib.hid (HNO.out (fun h => by have := h.1.2.2.2.2.1 (by omega); omega))
      clear HNO HYES
      have HB := Lib.hid (Box.new 30 w [.int .i64 6, .bool false, .int .i64 0, .string s, .slice A1 ks.length c1, .slice A2 kids.length c2])
      have b0 := HB.out.cell (j := 0) rfl
      have b1 := HB.out.cell (j := 1) rfl
      have b2 := HB.out.cell (j := 2) rfl
      have b3 := HB.out.cell (j := 3) rfl
      have b4 := HB.out.cell (j := 4) rfl
      have b5 := HB.out.cell (j := 5) rfl
      go_enter Tryz.func32, Tryz.ntmps32
      go_wp2_with fail
      refine (HJ.out _).mono ?_
      rintro e w0 ⟨rfl, rfl⟩
      go_wp2_with fail
      go_ret
      exact ⟨by rw [Hn.out]; rfl, HB.out.1⟩
  obtain rfl : s = ⟨#[]⟩ := by apply ByteArray.ext; exact Array.eq_empty_of_size_eq_zero hS
  by_cases hK : ks.length = 0
  · skip
    obtain rfl : ks = [] := List.eq_nil_of_length_eq_zero hK
    by_cases hD : kids.length = 0
    · skip
      obtain rfl : kids = [] := List.eq_nil_of_length_eq_zero hD
      by_cases hT : TextOk ⟨#[]⟩
      rotate_left
      · have Hn := Lib.hid (HNO.out (fun h => hT h.2.1))
        rw [dec_no hT] at HW
        clear HNO HYES
        have HB := Lib.hid (Box.new 30 w [.int .i64 6, .bool false, .int .i64 0, .string ⟨#[]⟩, .slice A1 0 c1, .slice A2 0 c2])
        have b0 := HB.out.cell (j := 0) rfl
        have b1 := HB.out.cell (j := 1) rfl
        have b2 := HB.out.cell (j := 2) rfl
        have b3 := HB.out.cell (j := 3) rfl
        have b4 := HB.out.cell (j := 4) rfl
        have b5 := HB.out.cell (j := 5) rfl
        go_enter Tryz.func32, Tryz.ntmps32
        go_wp2_with fail
        refine (HJ.out _).mono ?_
        rintro e w0 ⟨rfl, rfl⟩
        go_wp2_with fail
        refine (HW.out _).mono ?_
        rintro e w1 ⟨rfl, hb1⟩
        have HB1 := Lib.hid (HB.out.below hb1)
        clear hb1 b0 b1 b2 b3 b4 b5
        go_wp2_with fail
        go_ret
        exact ⟨by rw [Hn.out]; rfl, HB1.out.1⟩
      rw [dec_yes hT] at HW
      have HB := Lib.hid (Box.new 30 w [.int .i64 6, .bool false, .int .i64 0, .string ⟨#[]⟩, .slice A1 0 c1, .slice A2 0 c2])
      have b0 := HB.out.cell (j := 0) rfl
      have b1 := HB.out.cell (j := 1) rfl
      have b2 := HB.out.cell (j := 2) rfl
      have b3 := HB.out.cell (j := 3) rfl
      have b4 := HB.out.cell (j := 4) rfl
      have b5 := HB.out.cell (j := 5) rfl
      go_enter Tryz.func32, Tryz.ntmps32
      go_wp2_with fail
      refine (HJ.out _).mono ?_
      rintro e w0 ⟨rfl, rfl⟩
      go_wp2_with fail
      refine (HW.out _).mono ?_
      rintro e w1 ⟨rfl, hb1⟩
      have HB1 := Lib.hid (HB.out.below hb1)
      clear hb1 b0 b1 b2 b3 b4 b5
      have b0 := HB1.out.cell (j := 0) rfl
      have b4 := HB1.out.cell (j := 4) rfl
      have b5 := HB1.out.cell (j := 5) rfl
      have eL : (((0 : Nat) : Int) != ((0 : Nat) : Int)) = false := rfl
      go_wp2_with fail
      go_loopw [3] (fun i wr => i = .int .i64 0 ∧ Box 30 w [.int .i64 6, .bool false, .int .i64 0, .string ⟨#[]⟩, .slice A1 0 c1, .slice A2 0 c2] wr) (fun _ _ => 0)
      case atStart => exact ⟨rfl, HB1.out⟩
      case round =>
        obtain ⟨rfl, hbox⟩ := hrel
        clear HB1 b0 b4 b5
        have p4 := hbox.cell (j := 4) rfl
        have p5 := hbox.cell (j := 5) rfl
        have Hb2 := Lib.hid hbox
        clear hbox
        have Hkey := Lib.hid (show KeysOk [] from fun i h => absurd h (Nat.not_lt_zero _))
        go_wp2_with fail
        clear p4 p5
        go_loopw [4] (fun i wr => i = .int .i64 0 ∧ Box 30 w [.int .i64 6, .bool false, .int .i64 0, .string ⟨#[]⟩, .slice A1 0 c1, .slice A2 0 c2] wr) (fun _ _ => 0)
        case atStart => exact ⟨rfl, Hb2.out⟩
        case round =>
          obtain ⟨rfl, hbox⟩ := hrel
          clear Hb2
          have p5 := hbox.cell (j := 5) rfl
          have Hb3 := Lib.hid hbox
          clear hbox
          have Hy := Lib.hid (HYES.out ⟨⟨by decide, by decide, (by first | (intro _; rfl) | (intro _; decide) | (intro h; exact absurd h (by decide)) | (intro h; exact absurd rfl h) | (intro _; exact HL.out)), (by first | (intro _; rfl) | (intro _; decide) | (intro h; exact absurd h (by decide)) | (intro h; exact absurd rfl h) | (intro _; exact HL.out)), (by first | (intro _; rfl) | (intro _; decide) | (intro h; exact absurd h (by decide)) | (intro h; exact absurd rfl h) | (intro _; exact HL.out)), (by first | (intro _; rfl) | (intro _; decide) | (intro h; exact absurd h (by decide)) | (intro h; exact absurd rfl h) | (intro _; exact HL.out)), (by first | (intro _; rfl) | (intro _; decide) | (intro h; exact absurd h (by decide)) | (intro h; exact absurd rfl h) | (intro _; exact HL.out)), (by first | (intro _; rfl) | (intro _; decide) | (intro h; exact absurd h (by decide)) | (intro h; exact absurd rfl h) | (intro _; exact HL.out))⟩, hT, Hkey.out, fun x hx => by simp at hx⟩)
          clear HYES HNO
          go_wp2_with fail
          go_ret
          exact ⟨by rw [Hy.out]; rfl, Hb3.out.1⟩
    · skip
      have eD : (0 : Int) < kids.length := by omega
      by_cases hT : TextOk ⟨#[]⟩
      rotate_left
      · have Hn := Lib.hid (HNO.out (fun h => hT h.2.1))
        rw [dec_no hT] at HW
        clear HNO HYES
        have HB := Lib.hid (Box.new 30 w [.int .i64 6, .bool false, .int .i64 0, .string ⟨#[]⟩, .slice A1 0 c1, .slice A2 kids.length c2])
        have b0 := HB.out.cell (j := 0) rfl
        have b1 := HB.out.cell (j := 1) rfl
        have b2 := HB.out.cell (j := 2) rfl
        have b3 := HB.out.cell (j := 3) rfl
        have b4 := HB.out.cell (j := 4) rfl
        have b5 := HB.out.cell (j := 5) rfl
        go_enter Tryz.func32, Tryz.ntmps32
        go_wp2_with fail
        refine (HJ.out _).mono ?_
        rintro e w0 ⟨rfl, rfl⟩
        go_wp2_with fail
        refine (HW.out _).mono ?_
        rintro e w1 ⟨rfl, hb1⟩
        have HB1 := Lib.hid (HB.out.below hb1)
        clear hb1 b0 b1 b2 b3 b4 b5
        go_wp2_with fail
        go_ret
        exact ⟨by rw [Hn.out]; rfl, HB1.out.1⟩
      rw [dec_yes hT] at HW
      by_cases hL : (0 : Nat) = kids.length
      · exact absurd hL (by omega)
      · have Hn := Lib.hid (HNO.out (fun h => hL (h.1.2.2.2.2.2.2.2 rfl)))
        have eL : (((0 : Nat) : Int) != ((kids.length : Nat) : Int)) = true := by rw [bne_iff_ne]; omega
        clear HNO HYES hL
        have HB := Lib.hid (Box.new 30 w [.int .i64 6, .bool false, .int .i64 0, .string ⟨#[]⟩, .slice A1 0 c1, .slice A2 kids.length c2])
        have b0 := HB.out.cell (j := 0) rfl
        have b1 := HB.out.cell (j := 1) rfl
        have b2 := HB.out.cell (j := 2) rfl
        have b3 := HB.out.cell (j := 3) rfl
        have b4 := HB.out.cell (j := 4) rfl
        have b5 := HB.out.cell (j := 5) rfl
        go_enter Tryz.func32, Tryz.ntmps32
        go_wp2_with fail
        refine (HJ.out _).mono ?_
        rintro e w0 ⟨rfl, rfl⟩
        go_wp2_with fail
        refine (HW.out _).mono ?_
        rintro e w1 ⟨rfl, hb1⟩
        have HB1 := Lib.hid (HB.out.below hb1)
        clear hb1 b0 b1 b2 b3 b4 b5
        have b0 := HB1.out.cell (j := 0) rfl
        have b4 := HB1.out.cell (j := 4) rfl
        have b5 := HB1.out.cell (j := 5) rfl
        go_wp2_with fail
        go_ret
        exact ⟨by rw [Hn.out]; rfl, HB1.out.1⟩
  · skip
    have eK : (0 : Int) < ks.length := by omega
    by_cases hD : kids.length = 0
    · skip
      obtain rfl : kids = [] := List.eq_nil_of_length_eq_zero hD
      by_cases hT : TextOk ⟨#[]⟩
      rotate_left
      · have Hn := Lib.hid (HNO.out (fun h => hT h.2.1))
        rw [dec_no hT] at HW
        clear HNO HYES
        have HB := Lib.hid (Box.new 30 w [.int .i64 6, .bool false, .int .i64 0, .string ⟨#[]⟩, .slice A1 ks.length c1, .slice A2 0 c2])
        have b0 := HB.out.cell (j := 0) rfl
        have b1 := HB.out.cell (j := 1) rfl
        have b2 := HB.out.cell (j := 2) rfl
        have b3 := HB.out.cell (j := 3) rfl
        have b4 := HB.out.cell (j := 4) rfl
        have b5 := HB.out.cell (j := 5) rfl
        go_enter Tryz.func32, Tryz.ntmps32
        go_wp2_with fail
        refine (HJ.out _).mono ?_
        rintro e w0 ⟨rfl, rfl⟩
        go_wp2_with fail
        refine (HW.out _).mono ?_
        rintro e w1 ⟨rfl, hb1⟩
        have HB1 := Lib.hid (HB.out.below hb1)
        clear hb1 b0 b1 b2 b3 b4 b5
        go_wp2_with fail
        go_ret
        exact ⟨by rw [Hn.out]; rfl, HB1.out.1⟩
      rw [dec_yes hT] at HW
      by_cases hL : (ks.length : Nat) = 0
      · exact absurd hL (by omega)
      · have Hn := Lib.hid (HNO.out (fun h => hL (h.1.2.2.2.2.2.2.2 rfl)))
        have eL : (((ks.length : Nat) : Int) != ((0 : Nat) : Int)) = true := by rw [bne_iff_ne]; omega
        clear HNO HYES hL
        have HB := Lib.hid (Box.new 30 w [.int .i64 6, .bool false, .int .i64 0, .string ⟨#[]⟩, .slice A1 ks.length c1, .slice A2 0 c2])
        have b0 := HB.out.cell (j := 0) rfl
        have b1 := HB.out.cell (j := 1) rfl
        have b2 := HB.out.cell (j := 2) rfl
        have b3 := HB.out.cell (j := 3) rfl
        have b4 := HB.out.cell (j := 4) rfl
        have b5 := HB.out.cell (j := 5) rfl
        go_enter Tryz.func32, Tryz.ntmps32
        go_wp2_with fail
        refine (HJ.out _).mono ?_
        rintro e w0 ⟨rfl, rfl⟩
        go_wp2_with fail
        refine (HW.out _).mono ?_
        rintro e w1 ⟨rfl, hb1⟩
        have HB1 := Lib.hid (HB.out.below hb1)
        clear hb1 b0 b1 b2 b3 b4 b5
        have b0 := HB1.out.cell (j := 0) rfl
        have b4 := HB1.out.cell (j := 4) rfl
        have b5 := HB1.out.cell (j := 5) rfl
        go_wp2_with fail
        go_ret
        exact ⟨by rw [Hn.out]; rfl, HB1.out.1⟩
    · skip
      have eD : (0 : Int) < kids.length := by omega
      by_cases hT : TextOk ⟨#[]⟩
      rotate_left
      · have Hn := Lib.hid (HNO.out (fun h => hT h.2.1))
        rw [dec_no hT] at HW
        clear HNO HYES
        have HB := Lib.hid (Box.new 30 w [.int .i64 6, .bool false, .int .i64 0, .string ⟨#[]⟩, .slice A1 ks.length c1, .slice A2 kids.length c2])
        have b0 := HB.out.cell (j := 0) rfl
        have b1 := HB.out.cell (j := 1) rfl
        have b2 := HB.out.cell (j := 2) rfl
        have b3 := HB.out.cell (j := 3) rfl
        have b4 := HB.out.cell (j := 4) rfl
        have b5 := HB.out.cell (j := 5) rfl
        go_enter Tryz.func32, Tryz.ntmps32
        go_wp2_with fail
        refine (HJ.out _).mono ?_
        rintro e w0 ⟨rfl, rfl⟩
        go_wp2_with fail
        refine (HW.out _).mono ?_
        rintro e w1 ⟨rfl, hb1⟩
        have HB1 := Lib.hid (HB.out.below hb1)
        clear hb1 b0 b1 b2 b3 b4 b5
        go_wp2_with fail
        go_ret
        exact ⟨by rw [Hn.out]; rfl, HB1.out.1⟩
      rw [dec_yes hT] at HW
      by_cases hL : (ks.length : Nat) = kids.length
      rotate_left
      · have Hn := Lib.hid (HNO.out (fun h => hL (h.1.2.2.2.2.2.2.2 rfl)))
        have eL : (((ks.length : Nat) : Int) != ((kids.length : Nat) : Int)) = true := by rw [bne_iff_ne]; omega
        clear HNO HYES hL
        have HB := Lib.hid (Box.new 30 w [.int .i64 6, .bool false, .int .i64 0, .string ⟨#[]⟩, .slice A1 ks.length c1, .slice A2 kids.length c2])
        have b0 := HB.out.cell (j := 0) rfl
        have b1 := HB.out.cell (j := 1) rfl
        have b2 := HB.out.cell (j := 2) rfl
        have b3 := HB.out.cell (j := 3) rfl
        have b4 := HB.out.cell (j := 4) rfl
        have b5 := HB.out.cell (j := 5) rfl
        go_enter Tryz.func32, Tryz.ntmps32
        go_wp2_with fail
        refine (HJ.out _).mono ?_
        rintro e w0 ⟨rfl, rfl⟩
        go_wp2_with fail
        refine (HW.out _).mono ?_
        rintro e w1 ⟨rfl, hb1⟩
        have HB1 := Lib.hid (HB.out.below hb1)
        clear hb1 b0 b1 b2 b3 b4 b5
        have b0 := HB1.out.cell (j := 0) rfl
        have b4 := HB1.out.cell (j := 4) rfl
        have b5 := HB1.out.cell (j := 5) rfl
        go_wp2_with fail
        go_ret
        exact ⟨by rw [Hn.out]; rfl, HB1.out.1⟩
      have HL := Lib.hid hL
      clear hL
      have HB := Lib.hid (Box.new 30 w [.int .i64 6, .bool false, .int .i64 0, .string ⟨#[]⟩, .slice A1 ks.length c1, .slice A2 kids.length c2])
      have b0 := HB.out.cell (j := 0) rfl
      have b1 := HB.out.cell (j := 1) rfl
      have b2 := HB.out.cell (j := 2) rfl
      have b3 := HB.out.cell (j := 3) rfl
      have b4 := HB.out.cell (j := 4) rfl
      have b5 := HB.out.cell (j := 5) rfl
      go_enter Tryz.func32, Tryz.ntmps32
      go_wp2_with fail
      refine (HJ.out _).mono ?_
      rintro e w0 ⟨rfl, rfl⟩
      go_wp2_with fail
      refine (HW.out _).mono ?_
      rintro e w1 ⟨rfl, hb1⟩
      have HB1 := Lib.hid (HB.out.below hb1)
      clear hb1 b0 b1 b2 b3 b4 b5
      have b0 := HB1.out.cell (j := 0) rfl
      have b4 := HB1.out.cell (j := 4) rfl
      have b5 := HB1.out.cell (j := 5) rfl
      have eL : (((ks.length : Nat) : Int) != ((kids.length : Nat) : Int)) = false := by rw [HL.out]; exact bne_self_eq_false _
      go_wp2_with fail
      go_loopw [3] (fun i wr => ∃ j : Nat, j ≤ ks.length ∧ i = .int .i64 j ∧ Hid (∀ m, m < j → KeyOk ks m) ∧ Box 30 w [.int .i64 6, .bool false, .int .i64 0, .string ⟨#[]⟩, .slice A1 ks.length c1, .slice A2 kids.length c2] wr) (fun i _ => ks.length - (intOf i).toNat)
      case atStart => exact ⟨0, Nat.zero_le _, rfl, fun m hm => by omega, HB1.out⟩
      case round =>
        clear HB1 b0 b4 b5
        obtain ⟨j, hj, rfl, hm, hbox⟩ := hrel
        have p4 := hbox.cell (j := 4) rfl
        by_cases hlt : j < ks.length
        · obtain ⟨g, o, rfl, hg, hc0⟩ := (Hr.out.below hbox.1).2 (by omega)
          have r1 := hc0 j hlt _ (scells_get ks j hlt)
          have HX := Lib.hid (fun w => spec_word ks[j] w (Hks.out _ (List.getElem_mem hlt)))
          have Hbox := Lib.hid hbox
          have i0 : (0 : Int) ≤ j := by omega
          have i1 : (j : Int) < ks.length := by omega
          by_cases ht : TextOk ks[j]
          rotate_left
          · have Hn := Lib.hid (HNO.out (fun h => ht (key_text hlt (h.2.2.1 j hlt))))
            rw [dec_no ht] at HX
            clear hc0 hg hbox hm HNO HYES ht
            generalize ks[j] = x at r1 HX
            go_wp2_with fail
            refine wp_region_held_drew (S := (fun w' => Below wr.heap.size wr w' ∧ w'.cell? ⟨w.heap.size, 4, none⟩ = some (.slice (some ⟨g, o, none⟩) ks.length c1) ∧ w'.cell? ⟨g, o + j, none⟩ = some (.string x))) (by kernel_rfl) ?_ (fun hHeld => ?_)
            · first | exact ⟨(Below.refl _ _).drew, p4, r1⟩ | exact keep2 hHeld hb2
            refine wpAnyH_take (i := 0) (v := ?_) rfl (by kernel_rfl) (by kernel_rfl) (by kernel_rfl) (fun _ _ _ h => h) (Or.inl ⟨by rfl, ?_⟩) (by assumption) ?_
            rotate_left
            · intro w' hSw
              try dsimp only at hSw
              go_simp
              try with_reducible rfl
            try simp only [Act.put, List.setIfInBounds_toArray, List.set_cons_zero, List.set_cons_succ, List.getElem_toArray, List.getElem_cons_zero]
            refine wpAnyH_take (i := 1) (v := ?_) rfl (by kernel_rfl) (by kernel_rfl) (by kernel_rfl) (fun _ _ _ h => h) (Or.inl ⟨by rfl, ?_⟩) (by assumption) ?_
            rotate_left
            · intro w' hSw
              try dsimp only at hSw
              go_simp
              try with_reducible rfl
            try simp only [Act.put, List.setIfInBounds_toArray, List.set_cons_zero, List.set_cons_succ, List.getElem_toArray, List.getElem_cons_zero, List.getElem_cons_succ]
            refine wpAnyH_take (i := 2) (v := ?_) rfl (by kernel_rfl) (by kernel_rfl) (by kernel_rfl) (fun _ _ _ h => h) (Or.inl ⟨by rfl, ?_⟩) (by assumption) ?_
            rotate_left
            · intro w' hSw
              try dsimp only at hSw
              go_simp
              try with_reducible rfl
            try simp only [Act.put, List.setIfInBounds_toArray, List.set_cons_zero, List.set_cons_succ, List.getElem_toArray, List.getElem_cons_zero, List.getElem_cons_succ]
            refine wpAnyH_take (i := 3) (v := ?_) rfl (by kernel_rfl) (by kernel_rfl) (by kernel_rfl) (fun _ _ _ h => h) (Or.inl ⟨by rfl, ?_⟩) (by assumption) ?_
            rotate_left
            · intro w' hSw
              try dsimp only at hSw
              go_simp
              try with_reducible rfl
            try simp only [Act.put, List.setIfInBounds_toArray, List.set_cons_zero, List.set_cons_succ, List.getElem_toArray, List.getElem_cons_zero, List.getElem_cons_succ]
            refine wpAnyH_take (i := 4) (v := ?_) rfl (by kernel_rfl) (by kernel_rfl) (by kernel_rfl) (fun _ _ _ h => h) (Or.inl ⟨by rfl, ?_⟩) (by assumption) ?_
            rotate_left
            · intro w' hSw
              try dsimp only at hSw
              go_simp
              try with_reducible rfl
            try simp only [Act.put, List.setIfInBounds_toArray, List.set_cons_zero, List.set_cons_succ, List.getElem_toArray, List.getElem_cons_zero, List.getElem_cons_succ]
            refine wpAnyH_ready (rs := [5]) (by kernel_rfl) (by simp) ?_
            refine AllReadyH.cons rfl (fun K hK => ?_) ?_
            · go_simp
              go_at_call 42
              refine (HX.out _).mono ?_
              rintro e w2 ⟨rfl, hb2⟩
              go_wp2_with fail
              refine hK.out _ _ ?_ (fun hHeld => ?_)
              · first | exact ⟨(Below.refl _ _).drew, p4, r1⟩ | exact keep2 hHeld hb2
              clear hK K
              try simp only [Act.put, List.setIfInBounds_toArray, List.set_cons_zero, List.set_cons_succ, List.getElem_toArray, List.getElem_cons_zero, List.getElem_cons_succ]
              refine wpAnyH_take (i := 6) (v := ?_) rfl (by kernel_rfl) (by kernel_rfl) (by kernel_rfl) (fun _ _ _ h => h) (Or.inl ⟨by rfl, ?_⟩) (by assumption) ?_
              rotate_left
              · intro w' hSw
                try dsimp only at hSw
                go_simp
                try with_reducible rfl
              try simp only [Act.put, List.setIfInBounds_toArray, List.set_cons_zero, List.set_cons_succ, List.getElem_toArray, List.getElem_cons_zero, List.getElem_cons_succ]
              refine wpAnyH_take (i := 7) (v := ?_) rfl (by kernel_rfl) (by kernel_rfl) (by kernel_rfl) (fun _ _ _ h => h) (Or.inl ⟨by rfl, ?_⟩) (by assumption) ?_
              rotate_left
              · intro w' hSw
                try dsimp only at hSw
                go_simp
                try with_reducible rfl
              try simp only [Act.put, List.setIfInBounds_toArray, List.set_cons_zero, List.set_cons_succ, List.getElem_toArray, List.getElem_cons_zero, List.getElem_cons_succ]
              refine wpAnyH_take (i := 8) (v := undef) rfl (by kernel_rfl) (by kernel_rfl) (by kernel_rfl) (fun _ _ _ h => h) (Or.inr ⟨by rfl, rfl⟩) (by assumption) ?_
              try simp only [Act.put, List.setIfInBounds_toArray, List.set_cons_zero, List.set_cons_succ, List.getElem_toArray, List.getElem_cons_zero, List.getElem_cons_succ]
              refine wpAnyH_take (i := 9) (v := undef) rfl (by kernel_rfl) (by kernel_rfl) (by kernel_rfl) (fun _ _ _ h => h) (Or.inr ⟨by rfl, rfl⟩) (by assumption) ?_
              try simp only [Act.put, List.setIfInBounds_toArray, List.set_cons_zero, List.set_cons_succ, List.getElem_toArray, List.getElem_cons_zero, List.getElem_cons_succ]
              refine wpAnyH_take (i := 10) (v := undef) rfl (by kernel_rfl) (by kernel_rfl) (by kernel_rfl) (fun _ _ _ h => h) (Or.inr ⟨by rfl, rfl⟩) (by assumption) ?_
              try simp only [Act.put, List.setIfInBounds_toArray, List.set_cons_zero, List.set_cons_succ, List.getElem_toArray, List.getElem_cons_zero, List.getElem_cons_succ]
              refine wpAnyH_take (i := 11) (v := undef) rfl (by kernel_rfl) (by kernel_rfl) (by kernel_rfl) (fun _ _ _ h => h) (Or.inr ⟨by rfl, rfl⟩) (by assumption) ?_
              try simp only [Act.put, List.setIfInBounds_toArray, List.set_cons_zero, List.set_cons_succ, List.getElem_toArray, List.getElem_cons_zero, List.getElem_cons_succ]
              refine wpAnyH_take (i := 12) (v := undef) rfl (by kernel_rfl) (by kernel_rfl) (by kernel_rfl) (fun _ _ _ h => h) (Or.inr ⟨by rfl, rfl⟩) (by assumption) ?_
              try simp only [Act.put, List.setIfInBounds_toArray, List.set_cons_zero, List.set_cons_succ, List.getElem_toArray, List.getElem_cons_zero, List.getElem_cons_succ]
              refine wpAnyH_take (i := 13) (v := undef) rfl (by kernel_rfl) (by kernel_rfl) (by kernel_rfl) (fun _ _ _ h => h) (Or.inr ⟨by rfl, rfl⟩) (by assumption) ?_
              try simp only [Act.put, List.setIfInBounds_toArray, List.set_cons_zero, List.set_cons_succ, List.getElem_toArray, List.getElem_cons_zero, List.getElem_cons_succ]
              refine wpAnyH_take (i := 14) (v := undef) rfl (by kernel_rfl) (by kernel_rfl) (by kernel_rfl) (fun _ _ _ h => h) (Or.inr ⟨by rfl, rfl⟩) (by assumption) ?_
              try simp only [Act.put, List.setIfInBounds_toArray, List.set_cons_zero, List.set_cons_succ, List.getElem_toArray, List.getElem_cons_zero, List.getElem_cons_succ]
              refine wpAnyH_take (i := 15) (v := undef) rfl (by kernel_rfl) (by kernel_rfl) (by kernel_rfl) (fun _ _ _ h => h) (Or.inr ⟨by rfl, rfl⟩) (by assumption) ?_
              try simp only [Act.put, List.setIfInBounds_toArray, List.set_cons_zero, List.set_cons_succ, List.getElem_toArray, List.getElem_cons_zero, List.getElem_cons_succ]
              refine wpAnyH_take (i := 16) (v := undef) rfl (by kernel_rfl) (by kernel_rfl) (by kernel_rfl) (fun _ _ _ h => h) (Or.inr ⟨by rfl, rfl⟩) (by assumption) ?_
              try simp only [Act.put, List.setIfInBounds_toArray, List.set_cons_zero, List.set_cons_succ, List.getElem_toArray, List.getElem_cons_zero, List.getElem_cons_succ]
              refine wpAnyH_take (i := 17) (v := undef) rfl (by kernel_rfl) (by kernel_rfl) (by kernel_rfl) (fun _ _ _ h => h) (Or.inr ⟨by rfl, rfl⟩) (by assumption) ?_
              try simp only [Act.put, List.setIfInBounds_toArray, List.set_cons_zero, List.set_cons_succ, List.getElem_toArray, List.getElem_cons_zero, List.getElem_cons_succ]
              refine wpAnyH_take (i := 18) (v := undef) rfl (by kernel_rfl) (by kernel_rfl) (by kernel_rfl) (fun _ _ _ h => h) (Or.inr ⟨by rfl, rfl⟩) (by assumption) ?_
              try simp only [Act.put, List.setIfInBounds_toArray, List.set_cons_zero, List.set_cons_succ, List.getElem_toArray, List.getElem_cons_zero, List.getElem_cons_succ]
              refine wpAnyH_take (i := 19) (v := undef) rfl (by kernel_rfl) (by kernel_rfl) (by kernel_rfl) (fun _ _ _ h => h) (Or.inr ⟨by rfl, rfl⟩) (by assumption) ?_
              try simp only [Act.put, List.setIfInBounds_toArray, List.set_cons_zero, List.set_cons_succ, List.getElem_toArray, List.getElem_cons_zero, List.getElem_cons_succ]
              refine wpAnyH_take (i := 20) (v := undef) rfl (by kernel_rfl) (by kernel_rfl) (by kernel_rfl) (fun _ _ _ h => h) (Or.inr ⟨by rfl, rfl⟩) (by assumption) ?_
              try simp only [Act.put, List.setIfInBounds_toArray, List.set_cons_zero, List.set_cons_succ, List.getElem_toArray, List.getElem_cons_zero, List.getElem_cons_succ]
              refine wpAnyH_take (i := 21) (v := undef) rfl (by kernel_rfl) (by kernel_rfl) (by kernel_rfl) (fun _ _ _ h => h) (Or.inr ⟨by rfl, rfl⟩) (by assumption) ?_
              try simp only [Act.put, List.setIfInBounds_toArray, List.set_cons_zero, List.set_cons_succ, List.getElem_toArray, List.getElem_cons_zero, List.getElem_cons_succ]
              refine wpAnyH_take (i := 22) (v := undef) rfl (by kernel_rfl) (by kernel_rfl) (by kernel_rfl) (fun _ _ _ h => h) (Or.inr ⟨by rfl, rfl⟩) (by assumption) ?_
              try simp only [Act.put, List.setIfInBounds_toArray, List.set_cons_zero, List.set_cons_succ, List.getElem_toArray, List.getElem_cons_zero, List.getElem_cons_succ]
              refine wpAnyH_take (i := 23) (v := undef) rfl (by kernel_rfl) (by kernel_rfl) (by kernel_rfl) (fun _ _ _ h => h) (Or.inr ⟨by rfl, rfl⟩) (by assumption) ?_
              try simp only [Act.put, List.setIfInBounds_toArray, List.set_cons_zero, List.set_cons_succ, List.getElem_toArray, List.getElem_cons_zero, List.getElem_cons_succ]
              refine wpAnyH_take (i := 24) (v := ?_) rfl (by kernel_rfl) (by kernel_rfl) (by kernel_rfl) (fun _ _ _ h => h) (Or.inl ⟨by rfl, ?_⟩) (by assumption) ?_
              rotate_left
              · intro w' hSw
                try dsimp only at hSw
                go_simp
                try with_reducible rfl
              try simp only [Act.put, List.setIfInBounds_toArray, List.set_cons_zero, List.set_cons_succ, List.getElem_toArray, List.getElem_cons_zero, List.getElem_cons_succ]
              refine wpAnyH_done (by kernel_rfl) ?_ _
              go_wp2_with fail
              go_ret
              exact ⟨by rw [Hn.out]; rfl, (Hbox.out.below hHeld.1).1⟩
            exact AllReadyH.nil
          rw [dec_yes ht] at HX
          by_cases hz : j = 0
          · have Hm := Lib.hid (show ∀ m, m < j + 1 → KeyOk ks m from fun m hmj => by
              obtain rfl : m = j := by omega
              exact key_first hz hlt ht)
            have ez : decide ((0 : Int) < j) = false := by simp; omega
            have ez2 : ¬ (0 : Int) < j := by omega
            clear hc0 hg hbox hm ht hz
            generalize ks[j] = x at r1 HX
            go_wp2_with fail
            refine wp_region_held_drew (S := (fun w' => Below wr.heap.size wr w' ∧ w'.cell? ⟨w.heap.size, 4, none⟩ = some (.slice (some ⟨g, o, none⟩) ks.length c1) ∧ w'.cell? ⟨g, o + j, none⟩ = some (.string x))) (by kernel_rfl) ?_ (fun hHeld => ?_)
            · first | exact ⟨(Below.refl _ _).drew, p4, r1⟩ | exact keep2 hHeld hb2
            refine wpAnyH_take (i := 0) (v := ?_) rfl (by kernel_rfl) (by kernel_rfl) (by kernel_rfl) (fun _ _ _ h => h) (Or.inl ⟨by rfl, ?_⟩) (by assumption) ?_
            rotate_left
            · intro w' hSw
              try dsimp only at hSw
              go_simp
              try with_reducible rfl
            try simp only [Act.put, List.setIfInBounds_toArray, List.set_cons_zero, List.set_cons_succ, List.getElem_toArray, List.getElem_cons_zero]
            refine wpAnyH_take (i := 1) (v := ?_) rfl (by kernel_rfl) (by kernel_rfl) (by kernel_rfl) (fun _ _ _ h => h) (Or.inl ⟨by rfl, ?_⟩) (by assumption) ?_
            rotate_left
            · intro w' hSw
              try dsimp only at hSw
              go_simp
              try with_reducible rfl
            try simp only [Act.put, List.setIfInBounds_toArray, List.set_cons_zero, List.set_cons_succ, List.getElem_toArray, List.getElem_cons_zero, List.getElem_cons_succ]
            refine wpAnyH_take (i := 2) (v := ?_) rfl (by kernel_rfl) (by kernel_rfl) (by kernel_rfl) (fun _ _ _ h => h) (Or.inl ⟨by rfl, ?_⟩) (by assumption) ?_
            rotate_left
            · intro w' hSw
              try dsimp only at hSw
              go_simp
              try with_reducible rfl
            try simp only [Act.put, List.setIfInBounds_toArray, List.set_cons_zero, List.set_cons_succ, List.getElem_toArray, List.getElem_cons_zero, List.getElem_cons_succ]
            refine wpAnyH_take (i := 3) (v := ?_) rfl (by kernel_rfl) (by kernel_rfl) (by kernel_rfl) (fun _ _ _ h => h) (Or.inl ⟨by rfl, ?_⟩) (by assumption) ?_
            rotate_left
            · intro w' hSw
              try dsimp only at hSw
              go_simp
              try with_reducible rfl
            try simp only [Act.put, List.setIfInBounds_toArray, List.set_cons_zero, List.set_cons_succ, List.getElem_toArray, List.getElem_cons_zero, List.getElem_cons_succ]
            refine wpAnyH_take (i := 4) (v := ?_) rfl (by kernel_rfl) (by kernel_rfl) (by kernel_rfl) (fun _ _ _ h => h) (Or.inl ⟨by rfl, ?_⟩) (by assumption) ?_
            rotate_left
            · intro w' hSw
              try dsimp only at hSw
              go_simp
              try with_reducible rfl
            try simp only [Act.put, List.setIfInBounds_toArray, List.set_cons_zero, List.set_cons_succ, List.getElem_toArray, List.getElem_cons_zero, List.getElem_cons_succ]
            refine wpAnyH_ready (rs := [5]) (by kernel_rfl) (by simp) ?_
            refine AllReadyH.cons rfl (fun K hK => ?_) ?_
            · go_simp
              go_at_call 42
              refine (HX.out _).mono ?_
              rintro e w2 ⟨rfl, hb2⟩
              go_wp2_with fail
              refine hK.out _ _ ?_ (fun hHeld => ?_)
              · first | exact ⟨(Below.refl _ _).drew, p4, r1⟩ | exact keep2 hHeld hb2
              clear hK K
              try simp only [Act.put, List.setIfInBounds_toArray, List.set_cons_zero, List.set_cons_succ, List.getElem_toArray, List.getElem_cons_zero, List.getElem_cons_succ]
              refine wpAnyH_take (i := 6) (v := ?_) rfl (by kernel_rfl) (by kernel_rfl) (by kernel_rfl) (fun _ _ _ h => h) (Or.inl ⟨by rfl, ?_⟩) (by assumption) ?_
              rotate_left
              · intro w' hSw
                try dsimp only at hSw
                go_simp
                try with_reducible rfl
              try simp only [Act.put, List.setIfInBounds_toArray, List.set_cons_zero, List.set_cons_succ, List.getElem_toArray, List.getElem_cons_zero, List.getElem_cons_succ]
              refine wpAnyH_take (i := 7) (v := ?_) rfl (by kernel_rfl) (by kernel_rfl) (by kernel_rfl) (fun _ _ _ h => h) (Or.inl ⟨by rfl, ?_⟩) (by assumption) ?_
              rotate_left
              · intro w' hSw
                try dsimp only at hSw
                go_simp
                try with_reducible rfl
              try simp only [Act.put, List.setIfInBounds_toArray, List.set_cons_zero, List.set_cons_succ, List.getElem_toArray, List.getElem_cons_zero, List.getElem_cons_succ]
              refine wpAnyH_take (i := 8) (v := ?_) rfl (by kernel_rfl) (by kernel_rfl) (by kernel_rfl) (fun _ _ _ h => h) (Or.inl ⟨by rfl, ?_⟩) (by assumption) ?_
              rotate_left
              · intro w' hSw
                try dsimp only at hSw
                go_simp
                try with_reducible rfl
              try simp only [Act.put, List.setIfInBounds_toArray, List.set_cons_zero, List.set_cons_succ, List.getElem_toArray, List.getElem_cons_zero, List.getElem_cons_succ]
              refine wpAnyH_take (i := 9) (v := .bool false) rfl (by kernel_rfl) (by kernel_rfl) (by kernel_rfl) (fun _ _ _ h => h) (Or.inl ⟨by rfl, ?_⟩) (by assumption) ?_
              · intro w' hSw
                try dsimp only at hSw
                go_simp
                try (first | rfl | exact ez | simp [ez] | omega)
              try simp only [Act.put, List.setIfInBounds_toArray, List.set_cons_zero, List.set_cons_succ, List.getElem_toArray, List.getElem_cons_zero, List.getElem_cons_succ]
              refine wpAnyH_take (i := 10) (v := ?_) rfl (by kernel_rfl) (by kernel_rfl) (by kernel_rfl) (fun _ _ _ h => h) (Or.inl ⟨by rfl, ?_⟩) (by assumption) ?_
              rotate_left
              · intro w' hSw
                try dsimp only at hSw
                go_simp
                try with_reducible rfl
              try simp only [Act.put, List.setIfInBounds_toArray, List.set_cons_zero, List.set_cons_succ, List.getElem_toArray, List.getElem_cons_zero, List.getElem_cons_succ]
              refine wpAnyH_take (i := 11) (v := undef) rfl (by kernel_rfl) (by kernel_rfl) (by kernel_rfl) (fun _ _ _ h => h) (Or.inr ⟨by rfl, rfl⟩) (by assumption) ?_
              try simp only [Act.put, List.setIfInBounds_toArray, List.set_cons_zero, List.set_cons_succ, List.getElem_toArray, List.getElem_cons_zero, List.getElem_cons_succ]
              refine wpAnyH_take (i := 12) (v := undef) rfl (by kernel_rfl) (by kernel_rfl) (by kernel_rfl) (fun _ _ _ h => h) (Or.inr ⟨by rfl, rfl⟩) (by assumption) ?_
              try simp only [Act.put, List.setIfInBounds_toArray, List.set_cons_zero, List.set_cons_succ, List.getElem_toArray, List.getElem_cons_zero, List.getElem_cons_succ]
              refine wpAnyH_take (i := 13) (v := undef) rfl (by kernel_rfl) (by kernel_rfl) (by kernel_rfl) (fun _ _ _ h => h) (Or.inr ⟨by rfl, rfl⟩) (by assumption) ?_
              try simp only [Act.put, List.setIfInBounds_toArray, List.set_cons_zero, List.set_cons_succ, List.getElem_toArray, List.getElem_cons_zero, List.getElem_cons_succ]
              refine wpAnyH_take (i := 14) (v := undef) rfl (by kernel_rfl) (by kernel_rfl) (by kernel_rfl) (fun _ _ _ h => h) (Or.inr ⟨by rfl, rfl⟩) (by assumption) ?_
              try simp only [Act.put, List.setIfInBounds_toArray, List.set_cons_zero, List.set_cons_succ, List.getElem_toArray, List.getElem_cons_zero, List.getElem_cons_succ]
              refine wpAnyH_take (i := 15) (v := undef) rfl (by kernel_rfl) (by kernel_rfl) (by kernel_rfl) (fun _ _ _ h => h) (Or.inr ⟨by rfl, rfl⟩) (by assumption) ?_
              try simp only [Act.put, List.setIfInBounds_toArray, List.set_cons_zero, List.set_cons_succ, List.getElem_toArray, List.getElem_cons_zero, List.getElem_cons_succ]
              refine wpAnyH_take (i := 16) (v := undef) rfl (by kernel_rfl) (by kernel_rfl) (by kernel_rfl) (fun _ _ _ h => h) (Or.inr ⟨by rfl, rfl⟩) (by assumption) ?_
              try simp only [Act.put, List.setIfInBounds_toArray, List.set_cons_zero, List.set_cons_succ, List.getElem_toArray, List.getElem_cons_zero, List.getElem_cons_succ]
              refine wpAnyH_take (i := 17) (v := undef) rfl (by kernel_rfl) (by kernel_rfl) (by kernel_rfl) (fun _ _ _ h => h) (Or.inr ⟨by rfl, rfl⟩) (by assumption) ?_
              try simp only [Act.put, List.setIfInBounds_toArray, List.set_cons_zero, List.set_cons_succ, List.getElem_toArray, List.getElem_cons_zero, List.getElem_cons_succ]
              refine wpAnyH_take (i := 18) (v := undef) rfl (by kernel_rfl) (by kernel_rfl) (by kernel_rfl) (fun _ _ _ h => h) (Or.inr ⟨by rfl, rfl⟩) (by assumption) ?_
              try simp only [Act.put, List.setIfInBounds_toArray, List.set_cons_zero, List.set_cons_succ, List.getElem_toArray, List.getElem_cons_zero, List.getElem_cons_succ]
              refine wpAnyH_take (i := 19) (v := undef) rfl (by kernel_rfl) (by kernel_rfl) (by kernel_rfl) (fun _ _ _ h => h) (Or.inr ⟨by rfl, rfl⟩) (by assumption) ?_
              try simp only [Act.put, List.setIfInBounds_toArray, List.set_cons_zero, List.set_cons_succ, List.getElem_toArray, List.getElem_cons_zero, List.getElem_cons_succ]
              refine wpAnyH_take (i := 20) (v := undef) rfl (by kernel_rfl) (by kernel_rfl) (by kernel_rfl) (fun _ _ _ h => h) (Or.inr ⟨by rfl, rfl⟩) (by assumption) ?_
              try simp only [Act.put, List.setIfInBounds_toArray, List.set_cons_zero, List.set_cons_succ, List.getElem_toArray, List.getElem_cons_zero, List.getElem_cons_succ]
              refine wpAnyH_take (i := 21) (v := undef) rfl (by kernel_rfl) (by kernel_rfl) (by kernel_rfl) (fun _ _ _ h => h) (Or.inr ⟨by rfl, rfl⟩) (by assumption) ?_
              try simp only [Act.put, List.setIfInBounds_toArray, List.set_cons_zero, List.set_cons_succ, List.getElem_toArray, List.getElem_cons_zero, List.getElem_cons_succ]
              refine wpAnyH_take (i := 22) (v := undef) rfl (by kernel_rfl) (by kernel_rfl) (by kernel_rfl) (fun _ _ _ h => h) (Or.inr ⟨by rfl, rfl⟩) (by assumption) ?_
              try simp only [Act.put, List.setIfInBounds_toArray, List.set_cons_zero, List.set_cons_succ, List.getElem_toArray, List.getElem_cons_zero, List.getElem_cons_succ]
              refine wpAnyH_take (i := 23) (v := ?_) rfl (by kernel_rfl) (by kernel_rfl) (by kernel_rfl) (fun _ _ _ h => h) (Or.inl ⟨by rfl, ?_⟩) (by assumption) ?_
              rotate_left
              · intro w' hSw
                try dsimp only at hSw
                go_simp
                try with_reducible rfl
              try simp only [Act.put, List.setIfInBounds_toArray, List.set_cons_zero, List.set_cons_succ, List.getElem_toArray, List.getElem_cons_zero, List.getElem_cons_succ]
              refine wpAnyH_take (i := 24) (v := ?_) rfl (by kernel_rfl) (by kernel_rfl) (by kernel_rfl) (fun _ _ _ h => h) (Or.inl ⟨by rfl, ?_⟩) (by assumption) ?_
              rotate_left
              · intro w' hSw
                try dsimp only at hSw
                go_simp
                try with_reducible rfl
              try simp only [Act.put, List.setIfInBounds_toArray, List.set_cons_zero, List.set_cons_succ, List.getElem_toArray, List.getElem_cons_zero, List.getElem_cons_succ]
              refine wpAnyH_done (by kernel_rfl) ?_ _
              have Hbox2 := Lib.hid (Hbox.out.below hHeld.1)
              clear hHeld
              go_wp2_with fail
              go_roundw
              case rel => exact ⟨j + 1, by omega, by go_num, Hm.out, Hbox2.out⟩
              case measure => simp [intOf]; omega
            exact AllReadyH.nil
          obtain ⟨m, hmj⟩ : ∃ m, m + 1 = j := ⟨j - 1, by omega⟩
          have r2 := hc0 m (by omega) _ (scells_get ks m (by omega))
          have ez : decide ((0 : Int) < j) = true := by simp; omega
          have ez2 : (0 : Int) < j := by omega
          have ew : IntKind.i64.wrap ((j : Int) - 1) = (m : Int) := by rw [show (j : Int) - 1 = m by omega]; unfold IntKind.wrap; simp [IntKind.bits, IntKind.signed]; omega
          have i2 : (0 : Int) ≤ m := by omega
          have i3 : (m : Int) < ks.length := by omega
          by_cases hl : less (ks[m]'(by omega)) ks[j] = true
          · have Hm := Lib.hid (show ∀ q, q < j + 1 → KeyOk ks q from fun q hq => by
              by_cases e : q = j
              · subst e; exact key_next hmj hlt ht hl
              · exact hm.out q (by omega))
            unfold less at hl
            clear hc0 hg hbox hm ht hz
            generalize ks[j] = x at r1 HX hl
            generalize ks[m]'(by omega) = y at r2 hl
            go_wp2_with fail
            refine wp_region_held_drew (S := (fun w' => Below wr.heap.size wr w' ∧ w'.cell? ⟨w.heap.size, 4, none⟩ = some (.slice (some ⟨g, o, none⟩) ks.length c1) ∧ w'.cell? ⟨g, o + j, none⟩ = some (.string x) ∧ w'.cell? ⟨g, o + m, none⟩ = some (.string y))) (by kernel_rfl) ?_ (fun hHeld => ?_)
            · first | exact ⟨(Below.refl _ _).drew, p4, r1, r2⟩ | exact keep3 hHeld hb2
            refine wpAnyH_take (i := 0) (v := ?_) rfl (by kernel_rfl) (by kernel_rfl) (by kernel_rfl) (fun _ _ _ h => h) (Or.inl ⟨by rfl, ?_⟩) (by assumption) ?_
            rotate_left
            · intro w' hSw
              try dsimp only at hSw
              go_simp
              try with_reducible rfl
            try simp only [Act.put, List.setIfInBounds_toArray, List.set_cons_zero, List.set_cons_succ, List.getElem_toArray, List.getElem_cons_zero]
            refine wpAnyH_take (i := 1) (v := ?_) rfl (by kernel_rfl) (by kernel_rfl) (by kernel_rfl) (fun _ _ _ h => h) (Or.inl ⟨by rfl, ?_⟩) (by assumption) ?_
            rotate_left
            · intro w' hSw
              try dsimp only at hSw
              go_simp
              try with_reducible rfl
            try simp only [Act.put, List.setIfInBounds_toArray, List.set_cons_zero, List.set_cons_succ, List.getElem_toArray, List.getElem_cons_zero, List.getElem_cons_succ]
            refine wpAnyH_take (i := 2) (v := ?_) rfl (by kernel_rfl) (by kernel_rfl) (by kernel_rfl) (fun _ _ _ h => h) (Or.inl ⟨by rfl, ?_⟩) (by assumption) ?_
            rotate_left
            · intro w' hSw
              try dsimp only at hSw
              go_simp
              try with_reducible rfl
            try simp only [Act.put, List.setIfInBounds_toArray, List.set_cons_zero, List.set_cons_succ, List.getElem_toArray, List.getElem_cons_zero, List.getElem_cons_succ]
            refine wpAnyH_take (i := 3) (v := ?_) rfl (by kernel_rfl) (by kernel_rfl) (by kernel_rfl) (fun _ _ _ h => h) (Or.inl ⟨by rfl, ?_⟩) (by assumption) ?_
            rotate_left
            · intro w' hSw
              try dsimp only at hSw
              go_simp
              try with_reducible rfl
            try simp only [Act.put, List.setIfInBounds_toArray, List.set_cons_zero, List.set_cons_succ, List.getElem_toArray, List.getElem_cons_zero, List.getElem_cons_succ]
            refine wpAnyH_take (i := 4) (v := ?_) rfl (by kernel_rfl) (by kernel_rfl) (by kernel_rfl) (fun _ _ _ h => h) (Or.inl ⟨by rfl, ?_⟩) (by assumption) ?_
            rotate_left
            · intro w' hSw
              try dsimp only at hSw
              go_simp
              try with_reducible rfl
            try simp only [Act.put, List.setIfInBounds_toArray, List.set_cons_zero, List.set_cons_succ, List.getElem_toArray, List.getElem_cons_zero, List.getElem_cons_succ]
            refine wpAnyH_ready (rs := [5]) (by kernel_rfl) (by simp) ?_
            refine AllReadyH.cons rfl (fun K hK => ?_) ?_
            · go_simp
              go_at_call 42
              refine (HX.out _).mono ?_
              rintro e w2 ⟨rfl, hb2⟩
              go_wp2_with fail
              refine hK.out _ _ ?_ (fun hHeld => ?_)
              · first | exact ⟨(Below.refl _ _).drew, p4, r1, r2⟩ | exact keep3 hHeld hb2
              clear hK K
              try simp only [Act.put, List.setIfInBounds_toArray, List.set_cons_zero, List.set_cons_succ, List.getElem_toArray, List.getElem_cons_zero, List.getElem_cons_succ]
              refine wpAnyH_take (i := 6) (v := ?_) rfl (by kernel_rfl) (by kernel_rfl) (by kernel_rfl) (fun _ _ _ h => h) (Or.inl ⟨by rfl, ?_⟩) (by assumption) ?_
              rotate_left
              · intro w' hSw
                try dsimp only at hSw
                go_simp
                try with_reducible rfl
              try simp only [Act.put, List.setIfInBounds_toArray, List.set_cons_zero, List.set_cons_succ, List.getElem_toArray, List.getElem_cons_zero, List.getElem_cons_succ]
              refine wpAnyH_take (i := 7) (v := ?_) rfl (by kernel_rfl) (by kernel_rfl) (by kernel_rfl) (fun _ _ _ h => h) (Or.inl ⟨by rfl, ?_⟩) (by assumption) ?_
              rotate_left
              · intro w' hSw
                try dsimp only at hSw
                go_simp
                try with_reducible rfl
              try simp only [Act.put, List.setIfInBounds_toArray, List.set_cons_zero, List.set_cons_succ, List.getElem_toArray, List.getElem_cons_zero, List.getElem_cons_succ]
              refine wpAnyH_take (i := 8) (v := ?_) rfl (by kernel_rfl) (by kernel_rfl) (by kernel_rfl) (fun _ _ _ h => h) (Or.inl ⟨by rfl, ?_⟩) (by assumption) ?_
              rotate_left
              · intro w' hSw
                try dsimp only at hSw
                go_simp
                try with_reducible rfl
              try simp only [Act.put, List.setIfInBounds_toArray, List.set_cons_zero, List.set_cons_succ, List.getElem_toArray, List.getElem_cons_zero, List.getElem_cons_succ]
              refine wpAnyH_take (i := 9) (v := .bool true) rfl (by kernel_rfl) (by kernel_rfl) (by kernel_rfl) (fun _ _ _ h => h) (Or.inl ⟨by rfl, ?_⟩) (by assumption) ?_
              · intro w' hSw
                try dsimp only at hSw
                go_simp
                try (first | rfl | exact ez | simp [ez] | omega)
              try simp only [Act.put, List.setIfInBounds_toArray, List.set_cons_zero, List.set_cons_succ, List.getElem_toArray, List.getElem_cons_zero, List.getElem_cons_succ]
              refine wpAnyH_take (i := 10) (v := ?_) rfl (by kernel_rfl) (by kernel_rfl) (by kernel_rfl) (fun _ _ _ h => h) (Or.inl ⟨by rfl, ?_⟩) (by assumption) ?_
              rotate_left
              · intro w' hSw
                try dsimp only at hSw
                go_simp
                try with_reducible rfl
              try simp only [Act.put, List.setIfInBounds_toArray, List.set_cons_zero, List.set_cons_succ, List.getElem_toArray, List.getElem_cons_zero, List.getElem_cons_succ]
              refine wpAnyH_take (i := 11) (v := ?_) rfl (by kernel_rfl) (by kernel_rfl) (by kernel_rfl) (fun _ _ _ h => h) (Or.inl ⟨by rfl, ?_⟩) (by assumption) ?_
              rotate_left
              · intro w' hSw
                try dsimp only at hSw
                go_simp
                try with_reducible rfl
              try simp only [Act.put, List.setIfInBounds_toArray, List.set_cons_zero, List.set_cons_succ, List.getElem_toArray, List.getElem_cons_zero, List.getElem_cons_succ]
              refine wpAnyH_take (i := 12) (v := ?_) rfl (by kernel_rfl) (by kernel_rfl) (by kernel_rfl) (fun _ _ _ h => h) (Or.inl ⟨by rfl, ?_⟩) (by assumption) ?_
              rotate_left
              · intro w' hSw
                try dsimp only at hSw
                go_simp
                try with_reducible rfl
              try simp only [Act.put, List.setIfInBounds_toArray, List.set_cons_zero, List.set_cons_succ, List.getElem_toArray, List.getElem_cons_zero, List.getElem_cons_succ]
              refine wpAnyH_take (i := 13) (v := ?_) rfl (by kernel_rfl) (by kernel_rfl) (by kernel_rfl) (fun _ _ _ h => h) (Or.inl ⟨by rfl, ?_⟩) (by assumption) ?_
              rotate_left
              · intro w' hSw
                try dsimp only at hSw
                go_simp
                try with_reducible rfl
              try simp only [Act.put, List.setIfInBounds_toArray, List.set_cons_zero, List.set_cons_succ, List.getElem_toArray, List.getElem_cons_zero, List.getElem_cons_succ]
              refine wpAnyH_take (i := 14) (v := (.int .i64 m)) rfl (by kernel_rfl) (by kernel_rfl) (by kernel_rfl) (fun _ _ _ h => h) (Or.inl ⟨by rfl, ?_⟩) (by assumption) ?_
              · intro w' hSw
                try dsimp only at hSw
                go_simp
                try (first | rfl | exact ew | simp [ew] | omega)
              try simp only [Act.put, List.setIfInBounds_toArray, List.set_cons_zero, List.set_cons_succ, List.getElem_toArray, List.getElem_cons_zero, List.getElem_cons_succ]
              refine wpAnyH_take (i := 15) (v := ?_) rfl (by kernel_rfl) (by kernel_rfl) (by kernel_rfl) (fun _ _ _ h => h) (Or.inl ⟨by rfl, ?_⟩) (by assumption) ?_
              rotate_left
              · intro w' hSw
                try dsimp only at hSw
                go_simp
                try with_reducible rfl
              try simp only [Act.put, List.setIfInBounds_toArray, List.set_cons_zero, List.set_cons_succ, List.getElem_toArray, List.getElem_cons_zero, List.getElem_cons_succ]
              refine wpAnyH_take (i := 16) (v := ?_) rfl (by kernel_rfl) (by kernel_rfl) (by kernel_rfl) (fun _ _ _ h => h) (Or.inl ⟨by rfl, ?_⟩) (by assumption) ?_
              rotate_left
              · intro w' hSw
                try dsimp only at hSw
                go_simp
                try with_reducible rfl
              try simp only [Act.put, List.setIfInBounds_toArray, List.set_cons_zero, List.set_cons_succ, List.getElem_toArray, List.getElem_cons_zero, List.getElem_cons_succ]
              refine wpAnyH_take (i := 17) (v := ?_) rfl (by kernel_rfl) (by kernel_rfl) (by kernel_rfl) (fun _ _ _ h => h) (Or.inl ⟨by rfl, ?_⟩) (by assumption) ?_
              rotate_left
              · intro w' hSw
                try dsimp only at hSw
                go_simp
                try with_reducible rfl
              try simp only [Act.put, List.setIfInBounds_toArray, List.set_cons_zero, List.set_cons_succ, List.getElem_toArray, List.getElem_cons_zero, List.getElem_cons_succ]
              refine wpAnyH_take (i := 18) (v := ?_) rfl (by kernel_rfl) (by kernel_rfl) (by kernel_rfl) (fun _ _ _ h => h) (Or.inl ⟨by rfl, ?_⟩) (by assumption) ?_
              rotate_left
              · intro w' hSw
                try dsimp only at hSw
                go_simp
                try with_reducible rfl
              try simp only [Act.put, List.setIfInBounds_toArray, List.set_cons_zero, List.set_cons_succ, List.getElem_toArray, List.getElem_cons_zero, List.getElem_cons_succ]
              refine wpAnyH_take (i := 19) (v := ?_) rfl (by kernel_rfl) (by kernel_rfl) (by kernel_rfl) (fun _ _ _ h => h) (Or.inl ⟨by rfl, ?_⟩) (by assumption) ?_
              rotate_left
              · intro w' hSw
                try dsimp only at hSw
                go_simp
                try with_reducible rfl
              try simp only [Act.put, List.setIfInBounds_toArray, List.set_cons_zero, List.set_cons_succ, List.getElem_toArray, List.getElem_cons_zero, List.getElem_cons_succ]
              refine wpAnyH_take (i := 20) (v := ?_) rfl (by kernel_rfl) (by kernel_rfl) (by kernel_rfl) (fun _ _ _ h => h) (Or.inl ⟨by rfl, ?_⟩) (by assumption) ?_
              rotate_left
              · intro w' hSw
                try dsimp only at hSw
                go_simp
                try with_reducible rfl
              try simp only [Act.put, List.setIfInBounds_toArray, List.set_cons_zero, List.set_cons_succ, List.getElem_toArray, List.getElem_cons_zero, List.getElem_cons_succ]
              refine wpAnyH_take (i := 21) (v := ?_) rfl (by kernel_rfl) (by kernel_rfl) (by kernel_rfl) (fun _ _ _ h => h) (Or.inl ⟨by rfl, ?_⟩) (by assumption) ?_
              rotate_left
              · intro w' hSw
                try dsimp only at hSw
                go_simp
                try with_reducible rfl
              try simp only [Act.put, List.setIfInBounds_toArray, List.set_cons_zero, List.set_cons_succ, List.getElem_toArray, List.getElem_cons_zero, List.getElem_cons_succ]
              refine wpAnyH_take (i := 22) (v := .bool false) rfl (by kernel_rfl) (by kernel_rfl) (by kernel_rfl) (fun _ _ _ h => h) (Or.inl ⟨by rfl, ?_⟩) (by assumption) ?_
              · intro w' hSw
                try dsimp only at hSw
                go_simp
                try (first | rfl | simp [hl])
              try simp only [Act.put, List.setIfInBounds_toArray, List.set_cons_zero, List.set_cons_succ, List.getElem_toArray, List.getElem_cons_zero, List.getElem_cons_succ]
              refine wpAnyH_take (i := 23) (v := ?_) rfl (by kernel_rfl) (by kernel_rfl) (by kernel_rfl) (fun _ _ _ h => h) (Or.inl ⟨by rfl, ?_⟩) (by assumption) ?_
              rotate_left
              · intro w' hSw
                try dsimp only at hSw
                go_simp
                try with_reducible rfl
              try simp only [Act.put, List.setIfInBounds_toArray, List.set_cons_zero, List.set_cons_succ, List.getElem_toArray, List.getElem_cons_zero, List.getElem_cons_succ]
              refine wpAnyH_take (i := 24) (v := ?_) rfl (by kernel_rfl) (by kernel_rfl) (by kernel_rfl) (fun _ _ _ h => h) (Or.inl ⟨by rfl, ?_⟩) (by assumption) ?_
              rotate_left
              · intro w' hSw
                try dsimp only at hSw
                go_simp
                try with_reducible rfl
              try simp only [Act.put, List.setIfInBounds_toArray, List.set_cons_zero, List.set_cons_succ, List.getElem_toArray, List.getElem_cons_zero, List.getElem_cons_succ]
              refine wpAnyH_done (by kernel_rfl) ?_ _
              have Hbox2 := Lib.hid (Hbox.out.below hHeld.1)
              clear hHeld
              go_wp2_with fail
              go_roundw
              case rel => exact ⟨j + 1, by omega, by go_num, Hm.out, Hbox2.out⟩
              case measure => simp [intOf]; omega
            exact AllReadyH.nil
          · have Hn := Lib.hid (HNO.out (fun h => hl (key_less hmj hlt (h.2.2.1 j hlt))))
            replace hl : less (ks[m]'(by omega)) ks[j] = false := by simpa using hl
            unfold less at hl
            clear hc0 hg hbox hm ht hz HNO HYES
            generalize ks[j] = x at r1 HX hl
            generalize ks[m]'(by omega) = y at r2 hl
            go_wp2_with fail
            refine wp_region_held_drew (S := (fun w' => Below wr.heap.size wr w' ∧ w'.cell? ⟨w.heap.size, 4, none⟩ = some (.slice (some ⟨g, o, none⟩) ks.length c1) ∧ w'.cell? ⟨g, o + j, none⟩ = some (.string x) ∧ w'.cell? ⟨g, o + m, none⟩ = some (.string y))) (by kernel_rfl) ?_ (fun hHeld => ?_)
            · first | exact ⟨(Below.refl _ _).drew, p4, r1, r2⟩ | exact keep3 hHeld hb2
            refine wpAnyH_take (i := 0) (v := ?_) rfl (by kernel_rfl) (by kernel_rfl) (by kernel_rfl) (fun _ _ _ h => h) (Or.inl ⟨by rfl, ?_⟩) (by assumption) ?_
            rotate_left
            · intro w' hSw
              try dsimp only at hSw
              go_simp
              try with_reducible rfl
            try simp only [Act.put, List.setIfInBounds_toArray, List.set_cons_zero, List.set_cons_succ, List.getElem_toArray, List.getElem_cons_zero]
            refine wpAnyH_take (i := 1) (v := ?_) rfl (by kernel_rfl) (by kernel_rfl) (by kernel_rfl) (fun _ _ _ h => h) (Or.inl ⟨by rfl, ?_⟩) (by assumption) ?_
            rotate_left
            · intro w' hSw
              try dsimp only at hSw
              go_simp
              try with_reducible rfl
            try simp only [Act.put, List.setIfInBounds_toArray, List.set_cons_zero, List.set_cons_succ, List.getElem_toArray, List.getElem_cons_zero, List.getElem_cons_succ]
            refine wpAnyH_take (i := 2) (v := ?_) rfl (by kernel_rfl) (by kernel_rfl) (by kernel_rfl) (fun _ _ _ h => h) (Or.inl ⟨by rfl, ?_⟩) (by assumption) ?_
            rotate_left
            · intro w' hSw
              try dsimp only at hSw
              go_simp
              try with_reducible rfl
            try simp only [Act.put, List.setIfInBounds_toArray, List.set_cons_zero, List.set_cons_succ, List.getElem_toArray, List.getElem_cons_zero, List.getElem_cons_succ]
            refine wpAnyH_take (i := 3) (v := ?_) rfl (by kernel_rfl) (by kernel_rfl) (by kernel_rfl) (fun _ _ _ h => h) (Or.inl ⟨by rfl, ?_⟩) (by assumption) ?_
            rotate_left
            · intro w' hSw
              try dsimp only at hSw
              go_simp
              try with_reducible rfl
            try simp only [Act.put, List.setIfInBounds_toArray, List.set_cons_zero, List.set_cons_succ, List.getElem_toArray, List.getElem_cons_zero, List.getElem_cons_succ]
            refine wpAnyH_take (i := 4) (v := ?_) rfl (by kernel_rfl) (by kernel_rfl) (by kernel_rfl) (fun _ _ _ h => h) (Or.inl ⟨by rfl, ?_⟩) (by assumption) ?_
            rotate_left
            · intro w' hSw
              try dsimp only at hSw
              go_simp
              try with_reducible rfl
            try simp only [Act.put, List.setIfInBounds_toArray, List.set_cons_zero, List.set_cons_succ, List.getElem_toArray, List.getElem_cons_zero, List.getElem_cons_succ]
            refine wpAnyH_ready (rs := [5]) (by kernel_rfl) (by simp) ?_
            refine AllReadyH.cons rfl (fun K hK => ?_) ?_
            · go_simp
              go_at_call 42
              refine (HX.out _).mono ?_
              rintro e w2 ⟨rfl, hb2⟩
              go_wp2_with fail
              refine hK.out _ _ ?_ (fun hHeld => ?_)
              · first | exact ⟨(Below.refl _ _).drew, p4, r1, r2⟩ | exact keep3 hHeld hb2
              clear hK K
              try simp only [Act.put, List.setIfInBounds_toArray, List.set_cons_zero, List.set_cons_succ, List.getElem_toArray, List.getElem_cons_zero, List.getElem_cons_succ]
              refine wpAnyH_take (i := 6) (v := ?_) rfl (by kernel_rfl) (by kernel_rfl) (by kernel_rfl) (fun _ _ _ h => h) (Or.inl ⟨by rfl, ?_⟩) (by assumption) ?_
              rotate_left
              · intro w' hSw
                try dsimp only at hSw
                go_simp
                try with_reducible rfl
              try simp only [Act.put, List.setIfInBounds_toArray, List.set_cons_zero, List.set_cons_succ, List.getElem_toArray, List.getElem_cons_zero, List.getElem_cons_succ]
              refine wpAnyH_take (i := 7) (v := ?_) rfl (by kernel_rfl) (by kernel_rfl) (by kernel_rfl) (fun _ _ _ h => h) (Or.inl ⟨by rfl, ?_⟩) (by assumption) ?_
              rotate_left
              · intro w' hSw
                try dsimp only at hSw
                go_simp
                try with_reducible rfl
              try simp only [Act.put, List.setIfInBounds_toArray, List.set_cons_zero, List.set_cons_succ, List.getElem_toArray, List.getElem_cons_zero, List.getElem_cons_succ]
              refine wpAnyH_take (i := 8) (v := ?_) rfl (by kernel_rfl) (by kernel_rfl) (by kernel_rfl) (fun _ _ _ h => h) (Or.inl ⟨by rfl, ?_⟩) (by assumption) ?_
              rotate_left
              · intro w' hSw
                try dsimp only at hSw
                go_simp
                try with_reducible rfl
              try simp only [Act.put, List.setIfInBounds_toArray, List.set_cons_zero, List.set_cons_succ, List.getElem_toArray, List.getElem_cons_zero, List.getElem_cons_succ]
              refine wpAnyH_take (i := 9) (v := .bool true) rfl (by kernel_rfl) (by kernel_rfl) (by kernel_rfl) (fun _ _ _ h => h) (Or.inl ⟨by rfl, ?_⟩) (by assumption) ?_
              · intro w' hSw
                try dsimp only at hSw
                go_simp
                try (first | rfl | exact ez | simp [ez] | omega)
              try simp only [Act.put, List.setIfInBounds_toArray, List.set_cons_zero, List.set_cons_succ, List.getElem_toArray, List.getElem_cons_zero, List.getElem_cons_succ]
              refine wpAnyH_take (i := 10) (v := ?_) rfl (by kernel_rfl) (by kernel_rfl) (by kernel_rfl) (fun _ _ _ h => h) (Or.inl ⟨by rfl, ?_⟩) (by assumption) ?_
              rotate_left
              · intro w' hSw
                try dsimp only at hSw
                go_simp
                try with_reducible rfl
              try simp only [Act.put, List.setIfInBounds_toArray, List.set_cons_zero, List.set_cons_succ, List.getElem_toArray, List.getElem_cons_zero, List.getElem_cons_succ]
              refine wpAnyH_take (i := 11) (v := ?_) rfl (by kernel_rfl) (by kernel_rfl) (by kernel_rfl) (fun _ _ _ h => h) (Or.inl ⟨by rfl, ?_⟩) (by assumption) ?_
              rotate_left
              · intro w' hSw
                try dsimp only at hSw
                go_simp
                try with_reducible rfl
              try simp only [Act.put, List.setIfInBounds_toArray, List.set_cons_zero, List.set_cons_succ, List.getElem_toArray, List.getElem_cons_zero, List.getElem_cons_succ]
              refine wpAnyH_take (i := 12) (v := ?_) rfl (by kernel_rfl) (by kernel_rfl) (by kernel_rfl) (fun _ _ _ h => h) (Or.inl ⟨by rfl, ?_⟩) (by assumption) ?_
              rotate_left
              · intro w' hSw
                try dsimp only at hSw
                go_simp
                try with_reducible rfl
              try simp only [Act.put, List.setIfInBounds_toArray, List.set_cons_zero, List.set_cons_succ, List.getElem_toArray, List.getElem_cons_zero, List.getElem_cons_succ]
              refine wpAnyH_take (i := 13) (v := ?_) rfl (by kernel_rfl) (by kernel_rfl) (by kernel_rfl) (fun _ _ _ h => h) (Or.inl ⟨by rfl, ?_⟩) (by assumption) ?_
              rotate_left
              · intro w' hSw
                try dsimp only at hSw
                go_simp
                try with_reducible rfl
              try simp only [Act.put, List.setIfInBounds_toArray, List.set_cons_zero, List.set_cons_succ, List.getElem_toArray, List.getElem_cons_zero, List.getElem_cons_succ]
              refine wpAnyH_take (i := 14) (v := (.int .i64 m)) rfl (by kernel_rfl) (by kernel_rfl) (by kernel_rfl) (fun _ _ _ h => h) (Or.inl ⟨by rfl, ?_⟩) (by assumption) ?_
              · intro w' hSw
                try dsimp only at hSw
                go_simp
                try (first | rfl | exact ew | simp [ew] | omega)
              try simp only [Act.put, List.setIfInBounds_toArray, List.set_cons_zero, List.set_cons_succ, List.getElem_toArray, List.getElem_cons_zero, List.getElem_cons_succ]
              refine wpAnyH_take (i := 15) (v := ?_) rfl (by kernel_rfl) (by kernel_rfl) (by kernel_rfl) (fun _ _ _ h => h) (Or.inl ⟨by rfl, ?_⟩) (by assumption) ?_
              rotate_left
              · intro w' hSw
                try dsimp only at hSw
                go_simp
                try with_reducible rfl
              try simp only [Act.put, List.setIfInBounds_toArray, List.set_cons_zero, List.set_cons_succ, List.getElem_toArray, List.getElem_cons_zero, List.getElem_cons_succ]
              refine wpAnyH_take (i := 16) (v := ?_) rfl (by kernel_rfl) (by kernel_rfl) (by kernel_rfl) (fun _ _ _ h => h) (Or.inl ⟨by rfl, ?_⟩) (by assumption) ?_
              rotate_left
              · intro w' hSw
                try dsimp only at hSw
                go_simp
                try with_reducible rfl
              try simp only [Act.put, List.setIfInBounds_toArray, List.set_cons_zero, List.set_cons_succ, List.getElem_toArray, List.getElem_cons_zero, List.getElem_cons_succ]
              refine wpAnyH_take (i := 17) (v := ?_) rfl (by kernel_rfl) (by kernel_rfl) (by kernel_rfl) (fun _ _ _ h => h) (Or.inl ⟨by rfl, ?_⟩) (by assumption) ?_
              rotate_left
              · intro w' hSw
                try dsimp only at hSw
                go_simp
                try with_reducible rfl
              try simp only [Act.put, List.setIfInBounds_toArray, List.set_cons_zero, List.set_cons_succ, List.getElem_toArray, List.getElem_cons_zero, List.getElem_cons_succ]
              refine wpAnyH_take (i := 18) (v := ?_) rfl (by kernel_rfl) (by kernel_rfl) (by kernel_rfl) (fun _ _ _ h => h) (Or.inl ⟨by rfl, ?_⟩) (by assumption) ?_
              rotate_left
              · intro w' hSw
                try dsimp only at hSw
                go_simp
                try with_reducible rfl
              try simp only [Act.put, List.setIfInBounds_toArray, List.set_cons_zero, List.set_cons_succ, List.getElem_toArray, List.getElem_cons_zero, List.getElem_cons_succ]
              refine wpAnyH_take (i := 19) (v := ?_) rfl (by kernel_rfl) (by kernel_rfl) (by kernel_rfl) (fun _ _ _ h => h) (Or.inl ⟨by rfl, ?_⟩) (by assumption) ?_
              rotate_left
              · intro w' hSw
                try dsimp only at hSw
                go_simp
                try with_reducible rfl
              try simp only [Act.put, List.setIfInBounds_toArray, List.set_cons_zero, List.set_cons_succ, List.getElem_toArray, List.getElem_cons_zero, List.getElem_cons_succ]
              refine wpAnyH_take (i := 20) (v := ?_) rfl (by kernel_rfl) (by kernel_rfl) (by kernel_rfl) (fun _ _ _ h => h) (Or.inl ⟨by rfl, ?_⟩) (by assumption) ?_
              rotate_left
              · intro w' hSw
                try dsimp only at hSw
                go_simp
                try with_reducible rfl
              try simp only [Act.put, List.setIfInBounds_toArray, List.set_cons_zero, List.set_cons_succ, List.getElem_toArray, List.getElem_cons_zero, List.getElem_cons_succ]
              refine wpAnyH_take (i := 21) (v := ?_) rfl (by kernel_rfl) (by kernel_rfl) (by kernel_rfl) (fun _ _ _ h => h) (Or.inl ⟨by rfl, ?_⟩) (by assumption) ?_
              rotate_left
              · intro w' hSw
                try dsimp only at hSw
                go_simp
                try with_reducible rfl
              try simp only [Act.put, List.setIfInBounds_toArray, List.set_cons_zero, List.set_cons_succ, List.getElem_toArray, List.getElem_cons_zero, List.getElem_cons_succ]
              refine wpAnyH_take (i := 22) (v := .bool true) rfl (by kernel_rfl) (by kernel_rfl) (by kernel_rfl) (fun _ _ _ h => h) (Or.inl ⟨by rfl, ?_⟩) (by assumption) ?_
              · intro w' hSw
                try dsimp only at hSw
                go_simp
                try (first | rfl | simp [hl])
              try simp only [Act.put, List.setIfInBounds_toArray, List.set_cons_zero, List.set_cons_succ, List.getElem_toArray, List.getElem_cons_zero, List.getElem_cons_succ]
              refine wpAnyH_take (i := 23) (v := ?_) rfl (by kernel_rfl) (by kernel_rfl) (by kernel_rfl) (fun _ _ _ h => h) (Or.inl ⟨by rfl, ?_⟩) (by assumption) ?_
              rotate_left
              · intro w' hSw
                try dsimp only at hSw
                go_simp
                try with_reducible rfl
              try simp only [Act.put, List.setIfInBounds_toArray, List.set_cons_zero, List.set_cons_succ, List.getElem_toArray, List.getElem_cons_zero, List.getElem_cons_succ]
              refine wpAnyH_take (i := 24) (v := ?_) rfl (by kernel_rfl) (by kernel_rfl) (by kernel_rfl) (fun _ _ _ h => h) (Or.inl ⟨by rfl, ?_⟩) (by assumption) ?_
              rotate_left
              · intro w' hSw
                try dsimp only at hSw
                go_simp
                try with_reducible rfl
              try simp only [Act.put, List.setIfInBounds_toArray, List.set_cons_zero, List.set_cons_succ, List.getElem_toArray, List.getElem_cons_zero, List.getElem_cons_succ]
              refine wpAnyH_done (by kernel_rfl) ?_ _
              go_wp2_with fail
              go_ret
              exact ⟨by rw [Hn.out]; rfl, (Hbox.out.below hHeld.1).1⟩
            exact AllReadyH.nil
        · obtain rfl : j = ks.length := by omega
          have Hkey := Lib.hid (show KeysOk ks from hm.out)
          have p5 := hbox.cell (j := 5) rfl
          have Hb2 := Lib.hid hbox
          clear hbox hm
          go_wp2_with fail
          clear p4 p5
          go_loopw [4] (fun i wr => ∃ j : Nat, j ≤ kids.length ∧ i = .int .i64 j ∧ Hid (∀ m x, m < j → kids[m]? = some x → Shape x) ∧ Box 30 w [.int .i64 6, .bool false, .int .i64 0, .string ⟨#[]⟩, .slice A1 ks.length c1, .slice A2 kids.length c2] wr) (fun i _ => kids.length - (intOf i).toNat)
          case atStart => exact ⟨0, Nat.zero_le _, rfl, fun m x hm => by omega, Hb2.out⟩
          case round =>
            clear Hb2
            obtain ⟨j, hj, rfl, hm, hbox⟩ := hrel
            have p5 := hbox.cell (j := 5) rfl
            by_cases hlt : j < kids.length
            · obtain ⟨g, o, rfl, hg, hkid⟩ := (Hk.out.below hbox.1) (by omega)
              obtain ⟨u0, u1, u2, u3, u4, u5, ⟨q0, q1, q2, q3, q4, q5⟩, hl⟩ := hkid j kids[j] (List.getElem?_eq_getElem hlt)
              have HC := Lib.hid (IH.out kids[j] _ wr hl)
              have Hbox := Lib.hid hbox
              by_cases hs : Shape kids[j]
              · rw [dec_yes hs] at HC
                have Hm := Lib.hid (show ∀ m x, m < j + 1 → kids[m]? = some x → Shape x from fun m x hmj hx => by
                  by_cases e : m = j
                  · subst e; rw [List.getElem?_eq_getElem hlt] at hx; injection hx with hx; rw [← hx]; exact hs
                  · exact hm.out m x (by omega) hx)
                clear hl hkid hbox hm hg hs
                go_wp2_with fail
                refine HC.out.mono ?_
                rintro e w2 ⟨rfl, hb2⟩
                have Hbox2 := Lib.hid (Hbox.out.below hb2)
                clear HC Hbox hb2 p5 q0 q1 q2 q3 q4 q5
                go_wp2_with fail
                go_roundw
                case rel => exact ⟨j + 1, by omega, by go_num, Hm.out, Hbox2.out⟩
                case measure => simp [intOf]; omega
              · rw [dec_no hs] at HC
                have Hn := Lib.hid (HNO.out (fun h => hs (h.2.2.2 _ (List.getElem_mem hlt))))
                clear hl hkid hbox hm hg hs HNO HYES
                go_wp2_with fail
                refine HC.out.mono ?_
                rintro e w2 ⟨rfl, hb2⟩
                have Hbox2 := Lib.hid (Hbox.out.below hb2)
                clear HC Hbox hb2 p5 q0 q1 q2 q3 q4 q5
                go_wp2_with fail
                go_ret
                exact ⟨by rw [Hn.out]; rfl, Hbox2.out.1⟩
            · obtain rfl : j = kids.length := by omega
              have Hy := Lib.hid (HYES.out ⟨⟨by decide, by decide, (by first | (intro _; rfl) | (intro _; decide) | (intro h; exact absurd h (by decide)) | (intro h; exact absurd rfl h) | (intro _; exact HL.out)), (by first | (intro _; rfl) | (intro _; decide) | (intro h; exact absurd h (by decide)) | (intro h; exact absurd rfl h) | (intro _; exact HL.out)), (by first | (intro _; rfl) | (intro _; decide) | (intro h; exact absurd h (by decide)) | (intro h; exact absurd rfl h) | (intro _; exact HL.out)), (by first | (intro _; rfl) | (intro _; decide) | (intro h; exact absurd h (by decide)) | (intro h; exact absurd rfl h) | (intro _; exact HL.out)), (by first | (intro _; rfl) | (intro _; decide) | (intro h; exact absurd h (by decide)) | (intro h; exact absurd rfl h) | (intro _; exact HL.out)), (by first | (intro _; rfl) | (intro _; decide) | (intro h; exact absurd h (by decide)) | (intro h; exact absurd rfl h) | (intro _; exact HL.out))⟩, hT, Hkey.out, fun x hx => by
                obtain ⟨m, hlm, e⟩ := List.mem_iff_getElem.1 hx
                exact hm.out m x hlm (by rw [List.getElem?_eq_getElem hlm, e])⟩)
              have Hb3 := Lib.hid hbox
              clear hbox hm HYES HNO
              go_wp2_with fail
              go_ret
              exact ⟨by rw [Hy.out]; rfl, Hb3.out.1⟩
theorem shape_no {f : Nat} (t : T) (vs : List Value) (w : World) (hk : ¬ (1 ≤ t.kind ∧ t.kind ≤ 6)) (h : LiesS w (f + 1) vs (row t)) :
    Calls Tryz.prog 32 #[.agg vs.toArray] w fun e w' => e = .returned (.bool (dec (Shape t))) ∧ Below w.heap.size w w' := by
  obtain ⟨k, fl, n, s, ks, kids⟩ := t
  obtain ⟨A1, c1, A2, c2, rfl, hkw, _, hs, hc1, hc2, hr, hks, hc3, hc4, f', hf, hki⟩ := open_tree h
  simp only [T.kind] at hk
  rw [dec_no (fun h2 => hk ⟨(shape_iff.1 h2).1.1, (shape_iff.1 h2).1.2.1⟩)]
  have HJ := Lib.hid (fun w => arith.in_no k 1 6 w (by omega))
  have HB := Lib.hid (Box.new 30 w [.int .i64 k, .bool fl, .int .i64 n, .string s, .slice A1 ks.length c1, .slice A2 kids.length c2])
  have b0 := HB.out.cell (j := 0) rfl
  have b1 := HB.out.cell (j := 1) rfl
  have b2 := HB.out.cell (j := 2) rfl
  have b3 := HB.out.cell (j := 3) rfl
  have b4 := HB.out.cell (j := 4) rfl
  have b5 := HB.out.cell (j := 5) rfl
  clear h hr hki hf hks hk hs
  go_enter Tryz.func32, Tryz.ntmps32
  go_wp2_with fail
  refine (HJ.out _).mono ?_
  rintro e w0 ⟨rfl, rfl⟩
  go_wp2_with fail
  all_goals go_ret
  all_goals exact ⟨rfl, HB.out.1⟩
theorem spec_shape : ∀ f : Nat, ShapeAt f
  | 0 => fun t vs w h => by
    obtain ⟨k, fl, n, s, ks, kids⟩ := t
    obtain ⟨_, _, _, _, _, _, _, _, _, _, _, _, _, _, f', hf, _⟩ := open_tree h
    omega
  | f + 1 => fun t vs w h => by
    have IH := spec_shape f
    by_cases hk : 1 ≤ t.kind ∧ t.kind ≤ 6
    · obtain ⟨k, fl, n, s, ks, kids⟩ := t
      simp only [T.kind] at hk
      obtain ⟨h1, h6⟩ := hk
      rcases (show k = 1 ∨ k = 2 ∨ k = 3 ∨ k = 4 ∨ k = 5 ∨ k = 6 by omega) with rfl | rfl | rfl | rfl | rfl | rfl
      · exact shape_1 IH fl n s ks kids vs w h
      · exact shape_2 IH fl n s ks kids vs w h
      · exact shape_3 IH fl n s ks kids vs w h
      · exact shape_4 IH fl n s ks kids vs w h
      · exact shape_5 IH fl n s ks kids vs w h
      · exact shape_6 IH fl n s ks kids vs w h
    · exact shape_no t vs w hk h
end Go.Proofs.YtbfkkaafkinpmaaGreatDoor.tree
