/- FnExactSignsOf: the law returns true at every argument. -/
import Derived.Test.YtamlkieeiflgkaaDoorSignsS
import Derived.Test.YtamlkieeiflgkaaDoorSignsI
import Derived.Test.YtamlkieeiflgkaaDoorLawSigns
namespace Go.Proofs.YtamlkieeiflgkaaDoor.fnExactSignsOf
open Go.ChangeShapes Go.WideShapes Go.ChangeAt Go.RowKit
open sign lawSign
set_option linter.unusedVariables false

/-- A list and where it lies: nowhere, or in a block from B on that can be written. -/
theorem live_of {w : World} {B : Nat} {v : Value} {l : List Sg} (h : w.ownsRow B 30 4 v l.length (rowsL l)) :
    ∃ A c, v = .slice A l.length c ∧ RdG w A l.length l ∧ ((A = none ∧ l = []) ∨ ∃ g, A = some ⟨g, 0, none⟩ ∧ B ≤ g ∧ LiveG w g l) := by
  rcases own_live rfl h with ⟨rfl, h0⟩ | ⟨g, c, rfl, hb, h1, h2, h3⟩
  · have hl := List.eq_nil_of_length_eq_zero h0
    subst hl
    exact ⟨none, 0, rfl, ⟨rfl, fun h => absurd h (by decide)⟩, .inl ⟨rfl, rfl⟩⟩
  · exact ⟨_, c, rfl, h3.rd rfl, .inr ⟨g, rfl, hb, h3⟩⟩
/-- What a list reads as stays, where another block than its own turns. -/
theorem rd_kept {w w' : World} {A : Option Addr} {n g : Nat} {l : List Sg} (h : RdG w A n l) (hg : w.grownBy w' (some g)) (hA : ∀ b o, A = some ⟨b, o, none⟩ → b ≠ g) : RdG w' A n l :=
  h.of_block hg.size (fun b o e hb => hg.block b hb (fun e2 => hA b o e (by injection e2)))
theorem mark_all {A : Option Addr} {c B : Nat} {l : List Sg} (w : World) (hn : l.length ≤ 1048576) (h : (A = none ∧ l = []) ∨ ∃ g, A = some ⟨g, 0, none⟩ ∧ B ≤ g ∧ LiveG w g l) :
    Calls Tryd.prog 23 #[.slice A l.length c, .int .i64 1] w fun e w' => e = .returned (.int .i64 (1 + 4 * l.length)) ∧ (∃ L, Marked L 1 l.length ∧ RdG w' A l.length L) ∧ ∃ g, B ≤ g ∧ w.grownBy w' (some g) := by
  rcases h with ⟨rfl, rfl⟩ | ⟨g, rfl, hb, hl⟩
  · refine (mark_nil c 1 w (by decide) (by decide)).mono ?_
    rintro e w' ⟨rfl, rfl⟩
    exact ⟨rfl, ⟨[], fun j hj => absurd hj (Nat.not_lt_zero _), rfl, fun h => absurd h (by decide)⟩, B, Nat.le_refl _, World.grownBy.refl _ _⟩
  · refine (mark_live g l.length c l 1 w hn rfl hl (by decide) (by decide)).mono ?_
    rintro e w' ⟨rfl, ⟨L, hL, hM, hv⟩, hg⟩
    exact ⟨rfl, ⟨L, hM, hv.rd hL⟩, g, hb, hg⟩
set_option maxHeartbeats 8000000 in
set_option maxRecDepth 100000 in
theorem walk (s : ByteArray) (W : World) (hs : s.size ≤ maxLen) (hT : rune.Tabs W) (hRg : whole.ErrVar W "strconv.ErrRange") (hE : readq.ErrVar W "strconv.ErrSyntax") :
    Calls Tryd.prog 7 #[.string s] W fun e w' => e = .returned (.bool true) ∧ Below W.heap.size W w' := by
  have ms := hs
  unfold maxLen at ms
  by_cases ls : 1048576 < s.size
  · clear hT hE hRg
    go_enter Tryd.func7, Tryd.ntmps7
    go_wp2_with fail
    go_ret
    exact ⟨rfl, Below.refl _ _⟩
  have hs9 : s.size ≤ 1048576 := by omega
  have HS := Lib.hid (spec_signs s W hs9)
  have HI := Lib.hid (fun w' (h : Below W.heap.size W w') => impl_signs s w' hs9 (hT.below h) (hE.below h) (hRg.below h))
  unfold Signs at HS HI
  have hlen : (allF s).1.length ≤ 1048576 := Nat.le_trans (all_len s) hs9
  generalize allF s = r at HS HI hlen
  obtain ⟨l, k, a, p⟩ := r
  have HF := Lib.hid (fun w => eqf_yes ⟨k, a, p⟩ w)
  unfold fV fC at HS HI HF
  simp only at HS HI HF hlen
  clear hT hE hRg
  go_enter Tryd.func7, Tryd.ntmps7
  go_wp2_with fail
  refine HS.out.mono ?_
  rintro e w1 ⟨v0, rfl, hown0, hb1⟩
  obtain ⟨A0, c0, rfl, _, _, hr0⟩ := own_rd rfl hown0
  have HbA := Lib.hid (hb1.alloc hb1.size (.cells #[.int .i64 k, .int .i64 a, .string p] 36))
  have HgA := Lib.hid (heap_alloc_new w1 (.cells #[.int .i64 k, .int .i64 a, .string p] 36))
  have HrA := Lib.hid (hr0.below ((Below.refl _ _).alloc (Nat.le_refl _) (.cells #[.int .i64 k, .int .i64 a, .string p] 36)))
  have HltA := Lib.hid (show w1.heap.size < (w1.alloc (.cells #[.int .i64 k, .int .i64 a, .string p] 36)).heap.size by simp)
  clear HS hown0 hb1 hr0
  generalize hVA : w1.alloc (.cells #[.int .i64 k, .int .i64 a, .string p] 36) = VA at *
  go_wp2_with fail
  refine (HI.out _ HbA.out).mono ?_
  rintro e w2 ⟨v1, rfl, hown1, hb2⟩
  obtain ⟨A1, c1, rfl, hr1, hl1⟩ := live_of hown1
  clear hown1 hVA
  have hAll : Below VA.heap.size VA (w2.alloc (.cells #[.int .i64 k, .int .i64 a, .string p] 36)) := hb2.alloc hb2.size _
  have HbB := Lib.hid (HbA.out.trans (hAll.mono HbA.out.size))
  have hg4 : (w2.alloc (.cells #[.int .i64 k, .int .i64 a, .string p] 36)).heap[w1.heap.size]? = some (.cells #[.int .i64 k, .int .i64 a, .string p] 36 (0, 0)) := heap_kept hAll HltA.out HgA.out
  have hg6 := heap_alloc_new w2 (.cells #[.int .i64 k, .int .i64 a, .string p] 36)
  have HrB := Lib.hid (HrA.out.below hAll)
  have HlB : Hid ((A1 = none ∧ l = []) ∨ ∃ g, A1 = some ⟨g, 0, none⟩ ∧ VA.heap.size ≤ g ∧ LiveG (w2.alloc (.cells #[.int .i64 k, .int .i64 a, .string p] 36)) g l) := by
    rcases hl1 with h | ⟨g, h1, h2, h3⟩
    · exact .inl h
    · exact .inr ⟨g, h1, h2, h3.block (by simp) (heap_alloc_old w2 _ h3.1)⟩
  have HrX : Hid (RdG (w2.alloc (.cells #[.int .i64 k, .int .i64 a, .string p] 36)) A1 l.length l) := hr1.below ((Below.refl _ _).alloc (Nat.le_refl _) _)
  have Hg4 := Lib.hid hg4
  have Hg6 := Lib.hid hg6
  have HA0 : Hid (∀ b o, A0 = some ⟨b, o, none⟩ → 0 < l.length → b < VA.heap.size) := by
    intro b o e hn
    obtain ⟨g, o2, e2, hg, _⟩ := HrA.out.2 hn
    rw [e] at e2
    injection e2 with e2
    injection e2 with e2
    omega
  clear hb2 hAll hg4 hg6 HrA HgA hr1 hl1
  generalize hVB : w2.alloc (.cells #[.int .i64 k, .int .i64 a, .string p] 36) = VB at *
  go_wp2_with fail
  refine (eqs_yes A1 A0 l.length c1 c0 l _ hlen HrX.out HrB.out).mono ?_
  rintro e w3 ⟨rfl, hb3⟩
  clear hVB
  have HbC := Lib.hid (HbB.out.trans (hb3.mono HbB.out.size))
  have hg4 := heap_kept hb3 (Array.getElem?_eq_some_iff.1 Hg4.out).1 Hg4.out
  have hg6 := heap_kept hb3 (Array.getElem?_eq_some_iff.1 Hg6.out).1 Hg6.out
  have HrC := Lib.hid (HrB.out.below hb3)
  have HlC : Hid ((A1 = none ∧ l = []) ∨ ∃ g, A1 = some ⟨g, 0, none⟩ ∧ VA.heap.size ≤ g ∧ LiveG w3 g l) := by
    rcases HlB.out with h | ⟨g, h1, h2, h3⟩
    · exact .inl h
    · exact .inr ⟨g, h1, h2, h3.block hb3.size (hb3.block g h3.1)⟩
  have HHg4 := Lib.hid hg4
  obtain ⟨⟨q0, q1, q2⟩, z0, z1, z2⟩ := three_cells hg4
  obtain ⟨⟨r0, r1, r2⟩, y0, y1, y2⟩ := three_cells hg6
  clear hb3 HbB Hg4 Hg6 HrB HlB HrX
  go_wp2_with (first | (refine wpList_load_row rfl 36 _ rfl w2.heap.size rfl 36 #[.int .i64 k, .int .i64 a, .string p] (0, 0) _ hg6 Tryd.underlying36 rfl fault_info ?_) | (refine wpList_load_row rfl 36 _ rfl w1.heap.size rfl 36 #[.int .i64 k, .int .i64 a, .string p] (0, 0) _ hg4 Tryd.underlying36 rfl fault_info ?_) | fail)
  refine (HF.out _).mono ?_
  rintro e w4 ⟨rfl, hb4⟩
  have HbD := Lib.hid (HbC.out.trans (hb4.mono HbC.out.size))
  have Hg4 := Lib.hid (heap_kept hb4 (Array.getElem?_eq_some_iff.1 HHg4.out).1 HHg4.out)
  have HrD := Lib.hid (HrC.out.below hb4)
  have HlD : Hid ((A1 = none ∧ l = []) ∨ ∃ g, A1 = some ⟨g, 0, none⟩ ∧ VA.heap.size ≤ g ∧ LiveG w4 g l) := by
    rcases HlC.out with h | ⟨g, h1, h2, h3⟩
    · exact .inl h
    · exact .inr ⟨g, h1, h2, h3.block hb4.size (hb4.block g h3.1)⟩
  clear hb4 HbC HrC HlC hg4 hg6 q0 q1 q2 z0 z1 z2 r0 r1 r2 y0 y1 y2 HHg4
  go_wp2_with fail
  refine (mark_all (c := c1) (B := VA.heap.size) w4 hlen HlD.out).mono ?_
  rintro e w5 ⟨rfl, ⟨M, hM, hr5⟩, g, hg, hgr⟩
  have HM := Lib.hid hM
  have HbE : Hid (Below W.heap.size W w5) := HbD.out.grown hgr HbD.out.size (fun b hb => by injection hb with hb; have := HbA.out.size; omega)
  have Hg5 : Hid (w5.heap[w1.heap.size]? = some (.cells #[.int .i64 k, .int .i64 a, .string p] 36 (0, 0))) := by
    have hlt := HltA.out
    exact (hgr.block _ (Array.getElem?_eq_some_iff.1 Hg4.out).1 (fun e => by injection e with e; omega)).trans Hg4.out
  have HrE : Hid (RdG w5 A0 l.length l) := by
    by_cases hn : 0 < l.length
    · exact rd_kept HrD.out hgr (fun b o e => by have := HA0.out b o e hn; omega)
    · exact ⟨rfl, fun h => absurd h hn⟩
  have HmE := Lib.hid hr5
  clear hM hr5 hgr hg HbD Hg4 HrD HlD HA0 HbA HltA
  go_wp2_with fail
  refine (held_yes A1 l.length c1 M 1 _ hlen HmE.out HM.out (by decide) (by decide)).mono ?_
  rintro e w6 ⟨rfl, hb6⟩
  have HbF := Lib.hid (HbE.out.trans (hb6.mono HbE.out.size))
  have Hg6 := Lib.hid (heap_kept hb6 (Array.getElem?_eq_some_iff.1 Hg5.out).1 Hg5.out)
  have HrF := Lib.hid (HrE.out.below hb6)
  have HmF := Lib.hid (HmE.out.below hb6)
  clear hb6 HbE Hg5 HrE HmE
  go_wp2_with fail
  refine (HI.out _ HbF.out).mono ?_
  rintro e w7 ⟨v2, rfl, hown2, hb7⟩
  obtain ⟨A2, c2, rfl, hr2, _⟩ := live_of hown2
  clear hown2
  have hAll : Below w6.heap.size w6 (w7.alloc (.cells #[.int .i64 k, .int .i64 a, .string p] 36)) := hb7.alloc hb7.size _
  have HbG := Lib.hid (HbF.out.trans (hAll.mono HbF.out.size))
  have Hg7 := Lib.hid (heap_kept hAll (Array.getElem?_eq_some_iff.1 Hg6.out).1 Hg6.out)
  have Hg10 := Lib.hid (heap_alloc_new w7 (.cells #[.int .i64 k, .int .i64 a, .string p] 36))
  have HrG := Lib.hid (HrF.out.below hAll)
  have HmG := Lib.hid (HmF.out.below hAll)
  have HrY : Hid (RdG (w7.alloc (.cells #[.int .i64 k, .int .i64 a, .string p] 36)) A2 l.length l) := hr2.below ((Below.refl _ _).alloc (Nat.le_refl _) _)
  clear hb7 hAll HbF Hg6 HrF HmF hr2 HI
  generalize hVG : w7.alloc (.cells #[.int .i64 k, .int .i64 a, .string p] 36) = VG at *
  go_wp2_with fail
  refine (eqs_yes A2 A0 l.length c2 c0 l _ hlen HrY.out HrG.out).mono ?_
  rintro e w8 ⟨rfl, hb8⟩
  clear hVG
  have HbH := Lib.hid (HbG.out.trans (hb8.mono HbG.out.size))
  have hg4 := heap_kept hb8 (Array.getElem?_eq_some_iff.1 Hg7.out).1 Hg7.out
  have hg10 := heap_kept hb8 (Array.getElem?_eq_some_iff.1 Hg10.out).1 Hg10.out
  have HmH := Lib.hid (HmG.out.below hb8)
  obtain ⟨⟨q0, q1, q2⟩, z0, z1, z2⟩ := three_cells hg4
  obtain ⟨⟨r0, r1, r2⟩, y0, y1, y2⟩ := three_cells hg10
  clear hb8 HbG Hg7 Hg10 HmG HrY HrG
  go_wp2_with (first | (refine wpList_load_row rfl 36 _ rfl w7.heap.size rfl 36 #[.int .i64 k, .int .i64 a, .string p] (0, 0) _ hg10 Tryd.underlying36 rfl fault_info ?_) | (refine wpList_load_row rfl 36 _ rfl w1.heap.size rfl 36 #[.int .i64 k, .int .i64 a, .string p] (0, 0) _ hg4 Tryd.underlying36 rfl fault_info ?_) | fail)
  refine (HF.out _).mono ?_
  rintro e w9 ⟨rfl, hb9⟩
  have HbI := Lib.hid (HbH.out.trans (hb9.mono HbH.out.size))
  have HmI := Lib.hid (HmH.out.below hb9)
  clear hb9 HbH HmH hg4 hg10 q0 q1 q2 z0 z1 z2 r0 r1 r2 y0 y1 y2
  go_wp2_with fail
  refine (held_yes A1 l.length c1 M 1 _ hlen HmI.out HM.out (by decide) (by decide)).mono ?_
  rintro e w10 ⟨rfl, hb10⟩
  have HbJ := Lib.hid (HbI.out.trans (hb10.mono HbI.out.size))
  clear hb10 HbI HmI
  go_wp2_with fail
  go_ret
  exact ⟨rfl, HbJ.out⟩
end Go.Proofs.YtamlkieeiflgkaaDoor.fnExactSignsOf
