/- Merged: CmpI CmpNI CmpNJ. -/
import Derived.Test.YtjcfaepklakpkaaGreatDoorGNeedP
import Derived.Test.YtjcfaepklakpkaaGreatDoorShelf
import Derived.Test.YtjcfaepklakpkaaGreatDoorGGen
import Derived.Test.YtjcfaepklakpkaaGreatDoorGNS
import Derived.Deep.RegionHeld3
import Derived.Laws.Cover1
namespace Go.Proofs.YtjcfaepklakpkaaGreatDoor.arith
open Go.ChangeShapes Go.WideShapes Go.ChangeAt Go.RowKit
set_option linter.unusedVariables false

theorem impl_cmp (a b : Int) (w : World) :
    Calls Tryz.prog 58 #[.int .i64 a, .int .i64 b] w fun e w' => e = .returned (.int .i64 (cmpF a b)) ∧ w = w' := by
  have hc : (if a < b then (-1 : Int) else if b < a then 1 else 0) = cmpF a b := rfl
  by_cases h1 : a < b
  · rw [if_pos h1] at hc
    rw [← hc]; clear hc
    go_enter Tryz.func58, Tryz.ntmps58
    go_wp2
    all_goals go_ret
    all_goals exact ⟨rfl, rfl⟩
  by_cases h2 : b < a
  · rw [if_neg h1, if_pos h2] at hc
    rw [← hc]; clear hc
    go_enter Tryz.func58, Tryz.ntmps58
    go_wp2
    all_goals go_ret
    all_goals exact ⟨rfl, rfl⟩
  · rw [if_neg h1, if_neg h2] at hc
    rw [← hc]; clear hc
    go_enter Tryz.func58, Tryz.ntmps58
    go_wp2
    all_goals go_ret
    all_goals exact ⟨rfl, rfl⟩
end Go.Proofs.YtjcfaepklakpkaaGreatDoor.arith
namespace Go.Proofs.YtjcfaepklakpkaaGreatDoor.need
open Go.ChangeShapes Go.WideShapes Go.ChangeAt Go.RowKit ty lab
set_option linter.unusedVariables false

theorem str_self (x : ByteArray) : (x.toList == x.toList) = true := beq_self_eq_true _
theorem isnan (x : ByteArray) (w : World) :
    Calls Tryz.prog 104 #[.string x] w fun e w' => e = .returned (.bool false) ∧ w = w' := by
  have h1 := str_self x
  go_enter Tryz.func104, Tryz.ntmps104
  go_wp2_with fail
  go_ret
  exact ⟨rfl, rfl⟩
theorem impl_cmpS (x y : ByteArray) (w : World) :
    Calls Tryz.prog 78 #[.string x, .string y] w fun e w' => e = .returned (.int .i64 (cmpB x y)) ∧ w = w' := by
  have H1 := Lib.hid (isnan x)
  have H2 := Lib.hid (isnan y)
  have hbd := bd_cmpL x.data.toList y.data.toList
  have hw := cmpB_way x y
  unfold cmpB at hw
  have hc : Lib.compareBytes x.data.toList y.data.toList = cmpB x y := rfl
  rw [← hc]
  clear hc
  generalize Lib.compareBytes x.data.toList y.data.toList = r at hbd hw
  rcases hw with ⟨h0, rfl⟩ | ⟨h0, _, h3⟩ | ⟨h0, hne, h3⟩
  · subst h0
    have a1 : Op.bytesLess x.toList x.toList = false := lessB_irr x
    clear hbd
    go_enter Tryz.func78, Tryz.ntmps78
    go_wp2_with fail
    refine (H1.out _).mono ?_
    rintro e w1 ⟨rfl, rfl⟩
    go_wp2_with fail
    refine (H2.out _).mono ?_
    rintro e w1 ⟨rfl, rfl⟩
    go_wp2_with fail
    go_ret
    exact ⟨rfl, rfl⟩
  · obtain rfl : r = -1 := by omega
    have a1 : Op.bytesLess x.toList y.toList = true := h3
    clear hbd h3 h0
    go_enter Tryz.func78, Tryz.ntmps78
    go_wp2_with fail
    refine (H1.out _).mono ?_
    rintro e w1 ⟨rfl, rfl⟩
    go_wp2_with fail
    refine (H2.out _).mono ?_
    rintro e w1 ⟨rfl, rfl⟩
    go_wp2_with fail
    go_ret
    exact ⟨rfl, rfl⟩
  · obtain rfl : r = 1 := by omega
    have a1 : Op.bytesLess x.toList y.toList = false := h3
    have a2 : Op.bytesLess y.toList x.toList = true := by
      cases h : Op.bytesLess y.toList x.toList with
      | true => rfl
      | false => exact absurd (key_same a1 h) hne
    have a3 := same_no hne
    clear hbd h3 h0 hne
    go_enter Tryz.func78, Tryz.ntmps78
    go_wp2_with fail
    refine (H1.out _).mono ?_
    rintro e w1 ⟨rfl, rfl⟩
    go_wp2_with fail
    refine (H2.out _).mono ?_
    rintro e w1 ⟨rfl, rfl⟩
    go_wp2_with fail
    go_ret
    exact ⟨rfl, rfl⟩
set_option maxRecDepth 100000 in
set_option maxHeartbeats 4000000 in
theorem impl_cmpV (a b : List ByteArray) (f1 f2 : Nat) (v1 v2 : Value) (w : World) (h1 : Lies w f1 v1 (.sl 1 a.length (a.flatMap Str.row))) (h2 : Lies w f2 v2 (.sl 1 b.length (b.flatMap Str.row))) :
    Calls Tryz.prog 59 #[v1, v2] w fun e w' => e = .returned (.int .i64 (cmpV a b)) ∧ w = w' := by
  obtain ⟨A1, c1, rfl, hc1, hm1, hr1, _⟩ := Str.opened h1
  obtain ⟨A2, c2, rfl, hc2, hm2, hr2, _⟩ := Str.opened h2
  unfold maxLen at hm1 hm2
  obtain ⟨R, hR⟩ : ∃ R, cmpV a b = R := ⟨_, rfl⟩
  rw [hR]
  have Hat : Hid (∀ k (h1 : k < a.length) (h2 : k < b.length), (∀ j (hj : j < k), (a[j]'(by omega)) = (b[j]'(by omega))) → cmpB a[k] b[k] ≠ 0 → R = cmpB a[k] b[k]) := fun k h1 h2 h3 h4 => by rw [← hR]; exact cmpV_at h1 h2 h3 h4
  have Hend : Hid ((∀ j (h1 : j < a.length) (h2 : j < b.length), a[j] = b[j]) → R = if b.length < a.length then 1 else if a.length < b.length then -1 else 0) := fun h => by rw [← hR]; exact cmpV_end h
  have Hr1 := Lib.hid hr1
  have Hr2 := Lib.hid hr2
  clear h1 h2 hr1 hr2 hR
  go_enter Tryz.func59, Tryz.ntmps59
  go_wp2_with fail
  go_loop [11] (fun i => ∃ j : Nat, j ≤ a.length ∧ i = .int .i64 j ∧ j ≤ b.length ∧ Hid (∀ q (h1 : q < a.length) (h2 : q < b.length), q < j → a[q] = b[q])) (fun i => a.length - (intOf i).toNat)
  case atStart => exact ⟨0, Nat.zero_le _, rfl, Nat.zero_le _, fun q _ _ hq => by omega⟩
  case round =>
    obtain ⟨j, hj, rfl, hjb, hall⟩ := hrel
    by_cases hlt : j < a.length
    · obtain ⟨g1, o1, rfl, hg1, hc01⟩ := Hr1.out.2 (by omega)
      have q0 := hc01 j hlt _ (scells_get a j hlt)
      by_cases hlb : j < b.length
      · obtain ⟨g2, o2, rfl, hg2, hc02⟩ := Hr2.out.2 (by omega)
        have q1 := hc02 j hlb _ (scells_get b j hlb)
        have n1 : ¬ (b.length : Int) ≤ (j : Int) := by omega
        have HC := Lib.hid (impl_cmpS a[j] b[j])
        by_cases hz : cmpB a[j] b[j] = 0
        · have Hn : Hid (∀ q (h1 : q < a.length) (h2 : q < b.length), q < j + 1 → a[q] = b[q]) := fun q h1 h2 hq => by
            by_cases e : q = j
            · subst e; exact cmpB_zero hz
            · exact hall.out q h1 h2 (by omega)
          rw [hz] at HC
          clear hz Hat Hend hall hc01 hc02 hg1 hg2
          generalize a[j] = x at q0 HC
          generalize b[j] = y at q1 HC
          go_wp2_with fail
          refine (HC.out _).mono ?_
          rintro e w1 ⟨rfl, rfl⟩
          go_wp2_with fail
          go_round
          case rel => exact ⟨j + 1, by omega, by go_num, by omega, Hn.out⟩
          case measure => simp [intOf]; omega
        · have Hf := Lib.hid (Hat.out j hlt hlb (fun q hq => hall.out q (by omega) (by omega) hq) hz)
          have hne : (cmpB a[j] b[j] != 0) = true := bne_iff_ne.2 hz
          clear hz Hat Hend hall hc01 hc02 hg1 hg2
          generalize cmpB a[j] b[j] = r at HC Hf hne
          generalize a[j] = x at q0 HC
          generalize b[j] = y at q1 HC
          go_wp2_with fail
          refine (HC.out _).mono ?_
          rintro e w1 ⟨rfl, rfl⟩
          go_wp2_with fail
          go_ret
          exact ⟨by rw [Hf.out]; rfl, rfl⟩
      · obtain rfl : j = b.length := by omega
        have Hf := Lib.hid (Hend.out (fun q h1 h2 => hall.out q h1 h2 h2))
        rw [if_pos hlt] at Hf
        have n1 : (b.length : Int) ≤ (b.length : Int) := Int.le_refl _
        clear Hat Hend hall hc01 hg1
        generalize a[b.length] = x at q0
        go_wp2_with fail
        go_ret
        exact ⟨by rw [Hf.out]; rfl, rfl⟩
    · obtain rfl : j = a.length := by omega
      have Hf := Lib.hid (Hend.out (fun q h1 h2 => hall.out q h1 h2 h1))
      rw [if_neg (by omega)] at Hf
      clear Hat Hend hall
      by_cases hl : a.length < b.length
      · rw [if_pos hl] at Hf
        have n2 : (a.length : Int) < (b.length : Int) := by omega
        go_wp2_with fail
        go_ret
        exact ⟨by rw [Hf.out]; rfl, rfl⟩
      · rw [if_neg hl] at Hf
        have n2 : ¬ (a.length : Int) < (b.length : Int) := by omega
        go_wp2_with fail
        go_ret
        exact ⟨by rw [Hf.out]; rfl, rfl⟩
end Go.Proofs.YtjcfaepklakpkaaGreatDoor.need
namespace Go.Proofs.YtjcfaepklakpkaaGreatDoor.need
open Go.ChangeShapes Go.WideShapes Go.ChangeAt Go.RowKit ty lab
set_option linter.unusedVariables false

/-- The first of them that is not 0. -/
def orL : List Int → Int
  | [] => 0
  | a :: r => if a = 0 then orL r else a
theorem orL_at : ∀ {l : List Int} {k : Nat} (h : k < l.length), (∀ j (hj : j < k), (l[j]'(by omega)) = 0) → l[k] ≠ 0 → orL l = l[k]
  | [], _, h, _, _ => by simp at h
  | a :: r, 0, _, _, hne => by rw [orL, if_neg (by simpa using hne)]; rfl
  | a :: r, k + 1, h, hz, hne => by
    have h0 : a = 0 := hz 0 (by omega)
    rw [orL, if_pos h0, List.getElem_cons_succ]
    exact orL_at (k := k) (by simpa using h) (fun j hj => by have := hz (j + 1) (by omega); simpa using this) (by simpa using hne)
theorem orL_none : ∀ {l : List Int}, (∀ j (hj : j < l.length), l[j] = 0) → orL l = 0
  | [], _ => rfl
  | a :: r, h => by
    have h0 : a = 0 := h 0 (by simp)
    rw [orL, if_pos h0]
    exact orL_none fun j hj => by have := h (j + 1) (by simpa using hj); simpa using this
theorem orL_three (a b c : Int) : orL [a, b, c] = orI a b c := by
  unfold orI
  simp only [orL]
  split
  · split
    · split
      · next h => exact h.symm
      · rfl
    · rfl
  · rfl
set_option maxRecDepth 100000 in
theorem impl_or (l : List Int) (A : Option Addr) (c : Nat) (w : World) (hn : l.length ≤ 1000) (h : Rd w A l.length (icells l)) :
    Calls Tryz.prog 57 #[.slice A l.length c] w fun e w' => e = .returned (.int .i64 (orL l)) ∧ w = w' := by
  obtain ⟨R, hR⟩ : ∃ R, orL l = R := ⟨_, rfl⟩
  rw [hR]
  have Hat : Hid (∀ k (h : k < l.length), (∀ j (hj : j < k), (l[j]'(by omega)) = 0) → l[k] ≠ 0 → R = l[k]) := fun k h1 h2 h3 => by rw [← hR]; exact orL_at h1 h2 h3
  have Hno : Hid ((∀ j (hj : j < l.length), l[j] = 0) → R = 0) := fun h => by rw [← hR]; exact orL_none h
  have Hr := Lib.hid h
  clear h hR
  go_enter Tryz.func57, Tryz.ntmps57
  go_wp2_with fail
  go_loop [8] (fun i => ∃ j : Nat, j ≤ l.length ∧ i = .int .i64 j ∧ Hid (∀ q (h1 : q < l.length), q < j → l[q] = 0)) (fun i => l.length - (intOf i).toNat)
  case atStart => exact ⟨0, Nat.zero_le _, rfl, fun q _ hq => by omega⟩
  case round =>
    obtain ⟨j, hj, rfl, hall⟩ := hrel
    by_cases hlt : j < l.length
    · obtain ⟨g, o, rfl, hg, hc⟩ := Hr.out.2 (by omega)
      have q0 := hc j hlt _ (icells_get l j hlt)
      rw [show l.getD j 0 = l[j] by rw [List.getD_eq_getElem?_getD, List.getElem?_eq_getElem hlt]; rfl] at q0
      by_cases hz : l[j] = 0
      · have Hn : Hid (∀ q (h1 : q < l.length), q < j + 1 → l[q] = 0) := fun q h1 hq => by
          by_cases e : q = j
          · subst e; exact hz
          · exact hall.out q h1 (by omega)
        rw [hz] at q0
        clear hz Hat Hno hall hc hg
        go_wp2_with fail
        go_round
        case rel => exact ⟨j + 1, by omega, by go_num, Hn.out⟩
        case measure => simp [intOf]; omega
      · have Hf := Lib.hid (Hat.out j hlt (fun q hq => hall.out q (by omega) hq) hz)
        have hne : (l[j] != 0) = true := bne_iff_ne.2 hz
        clear hz Hat Hno hall hc hg
        generalize l[j] = x at q0 Hf hne
        go_wp2_with fail
        go_ret
        exact ⟨by rw [Hf.out]; rfl, rfl⟩
    · obtain rfl : j = l.length := by omega
      have Hf := Lib.hid (Hno.out (fun q h1 => hall.out q h1 h1))
      clear Hat Hno hall
      go_wp2_with fail
      go_ret
      exact ⟨by rw [Hf.out]; rfl, rfl⟩
/-- The two boxes stand: their cells. -/
def Six (w : World) (u0 u1 u2 v0 v1 v2 : Value) (w' : World) : Prop := Gr w w' ∧ w'.cell? ⟨w.heap.size, 0, none⟩ = some u0 ∧ w'.cell? ⟨w.heap.size, 1, none⟩ = some u1 ∧ w'.cell? ⟨w.heap.size, 2, none⟩ = some u2 ∧ w'.cell? ⟨w.heap.size + 1, 0, none⟩ = some v0 ∧ w'.cell? ⟨w.heap.size + 1, 1, none⟩ = some v1 ∧ w'.cell? ⟨w.heap.size + 1, 2, none⟩ = some v2
theorem cell_gr {a b : World} {p : Addr} {v : Value} (h : a.cell? p = some v) (g : Gr a b) : b.cell? p = some v := (World.cell?_of_block (g.below.block _ (World.block_lt_of_cell? _ _ h))).trans h
theorem Six.keep {w a b : World} {u0 u1 u2 v0 v1 v2 : Value} (h : Six w u0 u1 u2 v0 v1 v2 a) (g : Gr a b) : Six w u0 u1 u2 v0 v1 v2 b :=
  ⟨h.1.trans g, cell_gr h.2.1 g, cell_gr h.2.2.1 g, cell_gr h.2.2.2.1 g, cell_gr h.2.2.2.2.1 g, cell_gr h.2.2.2.2.2.1 g, cell_gr h.2.2.2.2.2.2 g⟩
theorem rd_three (w : World) (a b c : Int) (t : TypeId) : Rd (w.alloc (.cells #[.int .i64 a, .int .i64 b, .int .i64 c] t)) (some ⟨w.heap.size, 0, none⟩) 3 (icells [a, b, c]) := by
  refine ⟨rfl, fun _ => ⟨_, _, rfl, by simp, fun j hj u hu => ?_⟩⟩
  rw [Nat.zero_add, cell_of_row _ _ _ _ _ _ (heap_alloc_new w _)]
  simpa [icells] using hu
set_option maxRecDepth 100000 in
set_option maxHeartbeats 8000000 in
theorem cmp_gr (x y : Need) (f1 f2 : Nat) (us vs : List Value) (w : World) (h1 : LiesS w f1 us x.row) (h2 : LiesS w f2 vs y.row) :
    Calls Tryz.prog 28 #[.agg us.toArray, .agg vs.toArray] w fun e w' => e = .returned (.int .i64 (cmpN x y)) ∧ Gr w w' := by
  obtain ⟨k1, o1, l1⟩ := x
  obtain ⟨k2, o2, l2⟩ := y
  obtain ⟨A1, c1, rfl, _, n1, m1, r1⟩ := Need.opened h1
  obtain ⟨A2, c2, rfl, _, n2, m2, r2⟩ := Need.opened h2
  unfold cmpN
  simp only at *
  obtain ⟨W, hW⟩ : ∃ W, W = (w.alloc (.cells #[.string k1, .int .i64 o1, .slice A1 l1.length c1] 31)).alloc (.cells #[.string k2, .int .i64 o2, .slice A2 l2.length c2] 31) := ⟨_, rfl⟩
  have hgr : Gr w W := by rw [hW]; exact ((Gr.refl w).alloc _).alloc _
  have hb1 : W.heap[w.heap.size]? = some (.cells #[.string k1, .int .i64 o1, .slice A1 l1.length c1] 31 (0, 0)) := by
    rw [hW, Below.heap_alloc _ _ _ (by simp)]
    exact heap_alloc_new w _
  have hb2 : W.heap[w.heap.size + 1]? = some (.cells #[.string k2, .int .i64 o2, .slice A2 l2.length c2] 31 (0, 0)) := by
    rw [hW]
    have h := heap_alloc_new (w.alloc (.cells #[.string k1, .int .i64 o1, .slice A1 l1.length c1] 31)) (.cells #[.string k2, .int .i64 o2, .slice A2 l2.length c2] 31)
    simpa using h
  have p0 : W.cell? ⟨w.heap.size, 0, none⟩ = some (.string k1) := by rw [cell_of_row _ _ _ _ _ _ hb1]; rfl
  have p1 : W.cell? ⟨w.heap.size, 1, none⟩ = some (.int .i64 o1) := by rw [cell_of_row _ _ _ _ _ _ hb1]; rfl
  have p2 : W.cell? ⟨w.heap.size, 2, none⟩ = some (.slice A1 l1.length c1) := by rw [cell_of_row _ _ _ _ _ _ hb1]; rfl
  have q0 : W.cell? ⟨w.heap.size + 1, 0, none⟩ = some (.string k2) := by rw [cell_of_row _ _ _ _ _ _ hb2]; rfl
  have q1 : W.cell? ⟨w.heap.size + 1, 1, none⟩ = some (.int .i64 o2) := by rw [cell_of_row _ _ _ _ _ _ hb2]; rfl
  have q2 : W.cell? ⟨w.heap.size + 1, 2, none⟩ = some (.slice A2 l2.length c2) := by rw [cell_of_row _ _ _ _ _ _ hb2]; rfl
  have HS := Lib.hid (fun w' => Tryz.strings_Compare k1 k2 w')
  have HI := Lib.hid (fun w' => arith.impl_cmp o1 o2 w')
  have HV := Lib.hid (fun w' (hg : Below w.heap.size w w') => impl_cmpV l1 l2 f1 f2 _ _ w' (r1.below hg) (r2.below hg))
  have hcB : Lib.compareBytes k1.data.toList k2.data.toList = cmpB k1 k2 := rfl
  rw [hcB] at HS
  generalize cmpB k1 k2 = a at HS
  generalize arith.cmpF o1 o2 = b at HI
  generalize cmpV l1 l2 = c at HV
  have HO := Lib.hid (show Calls Tryz.prog 57 #[.slice (some ⟨W.heap.size, 0, none⟩) 3 3] (W.alloc (.cells #[.int .i64 a, .int .i64 b, .int .i64 c] 3)).drew fun e w' => e = .returned (.int .i64 (orI a b c)) ∧ (W.alloc (.cells #[.int .i64 a, .int .i64 b, .int .i64 c] 3)).drew = w' by
    rw [← orL_three]
    exact impl_or [a, b, c] (some ⟨W.heap.size, 0, none⟩) 3 _ (by simp) ((rd_three W a b c _).drewN 1))
  have Hgr := Lib.hid hgr
  have HW := Lib.hid hW
  clear h1 h2 r1 r2 hgr hb1 hb2 hcB
  go_enter Tryz.func28, Tryz.ntmps28
  go_wp2_with fail
  rw [← hW]
  clear hW
  have h6 : Six w (.string k1) (.int .i64 o1) (.slice A1 l1.length c1) (.string k2) (.int .i64 o2) (.slice A2 l2.length c2) W := ⟨Hgr.out, p0, p1, p2, q0, q1, q2⟩
  clear p0 p1 p2 q0 q1 q2 HW
  have H6 := Lib.hid h6
  clear h6
  go_region_held3 (fun w' => Gr w w' ∧ w'.cell? ⟨w.heap.size, 0, none⟩ = some (.string k1) ∧ w'.cell? ⟨w.heap.size, 1, none⟩ = some (.int .i64 o1) ∧ w'.cell? ⟨w.heap.size, 2, none⟩ = some (.slice A1 l1.length c1) ∧ w'.cell? ⟨w.heap.size + 1, 0, none⟩ = some (.string k2) ∧ w'.cell? ⟨w.heap.size + 1, 1, none⟩ = some (.int .i64 o2) ∧ w'.cell? ⟨w.heap.size + 1, 2, none⟩ = some (.slice A2 l2.length c2)) (first | assumption | exact H6.out.keep (Gr.refl _).drew | exact Six.keep (by assumption) ((Gr.refl _).alloc _) | exact Six.keep (by assumption) (by assumption)) (first | (go_at_call 26; refine (HS.out _).mono ?_; rintro e w1 ⟨rfl, rfl⟩) | (go_at_call 58; refine (HI.out _).mono ?_; rintro e w1 ⟨rfl, rfl⟩) | (go_at_call 59; refine (HV.out _ (And.left (by assumption : Six w _ _ _ _ _ _ _)).below).mono ?_; rintro e w1 ⟨rfl, rfl⟩) | (go_at_call 57; refine HO.out.mono ?_; rintro e w1 ⟨rfl, rfl⟩))
  all_goals
    go_wp2_with fail
    go_ret
    exact ⟨rfl, (Hgr.out.alloc _).drew⟩
end Go.Proofs.YtjcfaepklakpkaaGreatDoor.need
