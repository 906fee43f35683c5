/- Merged: RtS DrawWord. -/
import Derived.Test.YtegpcjkcejijpaaGreatDoorGRn
import Derived.Lib.AppendStr
import Derived.Test.YtegpcjkcejijpaaGreatDoorGDraw
import Derived.Test.YtegpcjkcejijpaaGreatDoorGSc
namespace Go.Proofs.YtegpcjkcejijpaaGreatDoor.rune
open Go.ChangeShapes Go.WideShapes Go.ChangeAt Go.RowKit
set_option linter.unusedVariables false

theorem spec_join (A : Option Addr) (n c : Nat) (l : List Int) (w : World) (hn : n ≤ 1099511627776) (hln : l.length = n) (h : Rd w A n (icells l)) (hwf : ∀ x ∈ l, (Lit.int .i64 x).wf = true) :
    Calls Tryz.prog 123 #[.slice A n c] w fun e w' => e = .returned (.string (joinF l)) ∧ Below w.heap.size w w' := by
  obtain ⟨i0, hi, hz0, hz1, hz2⟩ := info_parts binfo.Tryzinfo
  have H := Lib.hid h
  have Hl := Lib.hid hln
  have Hw := Lib.hid hwf
  have hown1 : (w.alloc (.cells #[] 5)).ownsRow w.heap.size 5 1 (.slice (some ⟨w.heap.size, 0, none⟩) 0 0) 0 (bcells []) := World.ownsRow_lit w #[] 0 (Nat.le_refl _) (by simp [maxLen]) rfl
  have Hown := Lib.hid hown1
  have Hb := Lib.hid ((Below.refl w.heap.size w).alloc (Nat.le_refl _) (.cells #[] 5))
  clear h hln hown1 hwf
  go_enter Tryz.func123, Tryz.ntmps123
  go_wp2_with fail
  go_loopw [3, 4] (fun v i wr => ∃ (k m : Nat) (bs : List UInt8), k ≤ n ∧ i = .int .i64 k ∧ m ≤ 4 * k ∧ bs.length = m ∧ Hid (bs = joinL (l.take k)) ∧ wr.ownsRow w.heap.size 5 1 v m (bcells bs) ∧ Below w.heap.size w wr) (fun _ i _ => n - (intOf i).toNat)
  case atStart => exact ⟨0, 0, [], Nat.zero_le _, rfl, by omega, rfl, rfl, Hown.out, Hb.out⟩
  case round =>
    clear Hown Hb
    obtain ⟨k, m, bs, hk, rfl, hm, hlen, hbs, hown, hbel⟩ := hrel
    by_cases hlt : k < n
    · have hkl : k < l.length := by have := Hl.out; omega
      obtain ⟨g, o, rfl, hg, hc0⟩ := H.out.2 (by omega)
      have hc : wr.cell? ⟨g, o + k, none⟩ = some (.int .i64 (l.getD k 0)) := (hbel.cell (p := ⟨g, o + k, none⟩) hg).trans (hc0 k hlt _ (icells_get l k hkl))
      have Hj : Hid (bs ++ (textF (l.getD k 0)).data.toList = joinL (l.take (k + 1))) := by
        unfold Hid
        rw [List.take_succ_eq_append_getElem hkl, joinL_snoc, ← hbs.out, List.getD_eq_getElem?_getD, List.getElem?_eq_getElem hkl]
        rfl
      have hx := i64_bd (n := l.getD k 0) (by rw [List.getD_eq_getElem?_getD, List.getElem?_eq_getElem hkl]; exact Hw.out _ (List.getElem_mem hkl))
      have HT := Lib.hid (fun w => spec_text (l.getD k 0) w hx.1 hx.2)
      have h4 := text_le (l.getD k 0)
      clear hc0 hkl hbs
      generalize l.getD k 0 = x at hc HT Hj h4
      clear hx
      go_wp2_with fail
      refine (HT.out _).mono ?_
      rintro e w2 ⟨rfl, hb2⟩
      clear HT
      generalize textF x = t at Hj h4
      have Hlen := Lib.hid hlen
      have hown2 := own_below hown hb2
      have hbel2 := hbel.trans (hb2.mono hbel.size)
      clear hown hbel hb2 hc
      go_wp2_with (first | (at_builtin; refine Lib.wpList_append_own_string _ rfl (.tmp 12) (.tmp 17) 22 9 rfl w.heap.size 5 i0 Tryz.underlying22 Tryz.underlying9 hi hz0 hz1 hz2 _ m _ rfl hown2 t rfl (by unfold maxLen; omega) (by omega) (by have := hbel2.size; omega) ?_) | fail)
      intro v3 w3 hown3 hg3 _
      have hbel3 : Below w.heap.size w w3 := hbel2.grown hg3 (by have := hbel2.size; omega) (fun b hb => (hown2.lt b hb).1)
      rw [show Lib.strCells t = bcells t.data.toList from rfl, ← bcells_append] at hown3
      clear hown2 hbel2 hg3
      go_wp2_with fail
      go_roundw
      case rel => exact ⟨k + 1, m + t.size, bs ++ t.data.toList, by omega, by go_num, by omega, by rw [List.length_append, Hlen.out]; simp, Hj.out, hown3, hbel3⟩
      case measure => simp [intOf]; omega
    · obtain rfl : k = n := by omega
      have hconv := binfo.conv hlen hown
      have Hr : Hid (⟨bs.toArray⟩ = joinF l) := by
        unfold Hid joinF
        rw [hbs.out, List.take_of_length_le (by have := Hl.out; omega)]
      have Hbel := Lib.hid hbel
      clear hown hbel hbs
      go_wp2_with fail
      go_ret
      exact ⟨by rw [← Hr.out]; rfl, Hbel.out⟩
end Go.Proofs.YtegpcjkcejijpaaGreatDoor.rune
namespace Go.Proofs.YtegpcjkcejijpaaGreatDoor.draw
open Go.ChangeShapes Go.WideShapes Go.ChangeAt Go.RowKit
set_option linter.unusedVariables false

/-- What holds of each drawn word. -/
def WordP (x : ByteArray) : Prop := x.size ≤ 28 ∧ (rune.runesF x).isSome = true ∧ (quote.byB x.data.toList).length ≤ 42
theorem byR_le : ∀ l : List Int, (quote.byR l).length ≤ 6 * l.length
  | [] => by simp [quote.byR]
  | x :: l => by
    have h1 := byR_le l
    have h2 := quote.qN_le x.toNat
    have e : quote.byR (x :: l) = quote.qN x.toNat ++ quote.byR l := by simp [quote.byR]
    rw [e, List.length_append, List.length_cons]
    omega
theorem word_join {l : List Int} (h : l.length ≤ 6) : WordP (rune.joinF l) := by
  have h1 := rune.joinL_le l
  have h2 := rune.joinF_size l
  have hr := rune.runes_text l
  refine ⟨by omega, by rw [hr]; rfl, ?_⟩
  rw [quote.runes_q hr]
  have h3 := byR_le (l.filter (fun n => rune.okR n))
  have h4 := List.length_filter_le (fun n => rune.okR n) l
  omega

set_option maxRecDepth 100000 in
theorem text7_any (c : Nat) (A : Option Addr) (len cap : Nat) (z : Nat → Int) (w : World) (hc : Cur w c A len cap z) :
    Calls Tryz.prog 79 #[.pointer (some ⟨c, 0, none⟩), .int .i64 5] w (GotS WordP c A len cap z w) := by
  obtain ⟨i0, hi, hz0, hz1, hz2⟩ := info_parts TryzinfoI
  have hclt := hc.lt
  have hown := World.ownsRow_lit (size := 1) (base := w.heap.size) (e := 3) w #[] 0 (Nat.le_refl _) (by simp [maxLen]) rfl
  have Hc2 := Lib.hid (cur_alloc hc (.cells #[] 3))
  have Hown := Lib.hid hown
  have Hg := Lib.hid (grown_alloc w (.cells #[] 3) (some c))
  clear hown hc
  go_enter Tryz.func79, Tryz.ntmps79
  go_wp2_with fail
  go_loopw [5, 6] (fun v i wr => ∃ (k : Nat) (l : List Int), k ≤ 6 ∧ i = .int .i64 k ∧ l.length = k ∧ Hid (∀ x ∈ l, I64 x) ∧ wr.ownsRow w.heap.size 3 1 v k (icells l) ∧ Cur wr c A len cap z ∧ w.grownBy wr (some c)) (fun _ i _ => 6 - (intOf i).toNat)
  case atStart => exact ⟨0, [], Nat.zero_le _, rfl, rfl, fun x hx => by simp at hx, Hown.out, Hc2.out, Hg.out⟩
  case round =>
    clear Hown Hc2 Hg
    obtain ⟨k, l, hk, rfl, hll, hall, hown, hcur, hgr⟩ := hrel
    have Hll := Lib.hid hll
    clear hll
    have HB := Lib.hid (below_any c A len cap z 6 wr hcur (by decide) (by decide))
    go_wp2_with fail
    refine HB.out.mono ?_
    clear HB
    rintro e w2 ⟨x, hx, rfl, hcur2, hg2⟩
    have hown2 := kept_own' hown hclt hg2
    have hgr2 := grown_trans hgr hg2
    clear hown hcur hgr hg2
    by_cases hlt : (k : Int) < x
    · have hk8 : k < 6 := by omega
      have HR := Lib.hid (rune_any c A len cap z w2 hcur2)
      clear hcur2
      go_wp2_with fail
      refine HR.out.mono ?_
      clear HR
      rintro e w3 ⟨y, hy, rfl, hcur3, hg3⟩
      have hown3 := kept_own' hown2 hclt hg3
      have hgr3 := grown_trans hgr2 hg3
      have hws : w.heap.size ≤ w3.heap.size := hgr3.size
      clear hown2 hgr2 hg3
      go_wp2_with (at_builtin; refine wpList_append_own _ rfl (.tmp 16) (.tmp 19) 56 rfl w.heap.size 3 i0 (.int .i64 0) 1 8 Tryz.underlying56 hi hz0 hz1 hz2 rfl (by decide) _ k _ rfl (hown3.alloc _) ⟨w3.heap.size, 0, none⟩ 1 1 (icells [y]) rfl rfl (by exact lit_cells _ _ _) (by intro u hu; simp [icells] at hu; subst hu; rfl) (by unfold maxLen; omega) (by omega) (by simp; omega) ?_)
      intro v4 w4 hown4 hg4 _
      have hb4 : Below w.heap.size w3 w4 := ((Below.refl w.heap.size w3).alloc hws _).grown hg4 (by simp; omega) (fun b hb => (hown3.lt b hb).1)
      have hcur4 := hcur3.below hb4 hclt
      have hgr4 := grown_below hgr3 hb4
      have Hall : Hid (∀ u ∈ l ++ [y], I64 u) := fun u hu => by
        rcases List.mem_append.1 hu with h | h
        · exact hall.out u h
        · simp at h; subst h; exact hy
      clear hown3 hcur3 hgr3 hg4 hb4 hall hy
      go_wp2_with fail
      go_roundw
      case rel => exact ⟨k + 1, l ++ [y], by omega, by go_num, by simp [Hll.out], Hall, by rw [icells_append]; exact hown4, hcur4, hgr4⟩
      case measure => simp [intOf]; omega
    · obtain ⟨A1, c1, rfl, hn1, hc1, hr1⟩ := Rd.of_own hown2
      have HJ := Lib.hid (rune.spec_join A1 k c1 l w2 (by omega) Hll.out hr1 (fun u hu => (hall.out u hu).wf))
      have hsv : WordP (rune.joinF l) := word_join (by have := Hll.out; omega)
      have Hgr := Lib.hid hgr2
      have Hcur := Lib.hid hcur2
      clear hown2 hgr2 hcur2 hr1 hall
      generalize rune.joinF l = s at HJ hsv
      have Hsv := Lib.hid hsv
      clear hsv
      go_wp2_with fail
      refine HJ.out.mono ?_
      rintro e w3 ⟨rfl, hb3⟩
      clear HJ
      have hs := Hcur.out.lt
      have Hcur3 := Lib.hid (Hcur.out.below hb3 hs)
      have Hgr3 := Lib.hid (grown_below Hgr.out (hb3.mono Hgr.out.size))
      clear Hcur Hgr hb3
      go_wp2_with fail
      go_ret
      exact ⟨s, Hsv.out, rfl, Hcur3.out, Hgr3.out⟩

def odd : List ByteArray := [⟨#[]⟩, ⟨#[110, 117, 108, 108]⟩, ⟨#[116, 114, 117, 101]⟩, ⟨#[126]⟩, ⟨#[45]⟩, ⟨#[45, 32, 97]⟩, ⟨#[97, 58, 32, 98]⟩, ⟨#[97, 32, 35, 98]⟩, ⟨#[49, 50]⟩, ⟨#[45, 48]⟩, ⟨#[48, 48, 55]⟩, ⟨#[120, 10, 121]⟩, ⟨#[32, 97]⟩, ⟨#[97, 32]⟩, ⟨#[34, 113, 34]⟩, ⟨#[91]⟩, ⟨#[123, 125]⟩, ⟨#[107, 58]⟩, ⟨#[35]⟩, ⟨#[53, 48, 48, 109]⟩, ⟨#[50, 71, 105]⟩]
def even : List ByteArray := [⟨#[97]⟩, ⟨#[98]⟩, ⟨#[110, 97, 109, 101]⟩, ⟨#[107, 105, 110, 100]⟩, ⟨#[120, 45, 121]⟩, ⟨#[108, 97, 98, 101, 108, 115]⟩]
theorem odd_size : ∀ x ∈ odd, x.size ≤ 28 := by decide
theorem even_size : ∀ x ∈ even, x.size ≤ 28 := by decide
theorem runes_ascii {x : ByteArray} (h : rune.joinF (x.data.toList.map (fun b => (b.toNat : Int))) = x) : (rune.runesF x).isSome = true := by
  rw [← h, rune.runes_text]; rfl
theorem odd_runes : ∀ x ∈ odd, (rune.runesF x).isSome = true := by
  intro x hx
  simp only [odd, List.mem_cons, List.not_mem_nil, or_false] at hx
  rcases hx with rfl | rfl | rfl | rfl | rfl | rfl | rfl | rfl | rfl | rfl | rfl | rfl | rfl | rfl | rfl | rfl | rfl | rfl | rfl | rfl | rfl
  all_goals exact runes_ascii rfl
theorem even_runes : ∀ x ∈ even, (rune.runesF x).isSome = true := by
  intro x hx
  simp only [even, List.mem_cons, List.not_mem_nil, or_false] at hx
  rcases hx with rfl | rfl | rfl | rfl | rfl | rfl
  all_goals exact runes_ascii rfl

theorem odd_q : ∀ x ∈ odd, (quote.byB x.data.toList).length ≤ 42 := by decide
theorem even_q : ∀ x ∈ even, (quote.byB x.data.toList).length ≤ 42 := by decide
theorem odd_word (x : ByteArray) (h : x ∈ odd) : WordP x := ⟨odd_size x h, odd_runes x h, odd_q x h⟩
theorem even_word (x : ByteArray) (h : x ∈ even) : WordP x := ⟨even_size x h, even_runes x h, even_q x h⟩

set_option maxRecDepth 100000 in
theorem word_any (c : Nat) (A : Option Addr) (len cap : Nat) (z : Nat → Int) (w : World) (hc : Cur w c A len cap z) :
    Calls Tryz.prog 34 #[.pointer (some ⟨c, 0, none⟩)] w (GotS WordP c A len cap z w) := by
  have H4 := Lib.hid (below_any c A len cap z 4 w hc (by decide) (by decide))
  clear hc
  go_enter Tryz.func34, Tryz.ntmps34
  go_wp2_with fail
  refine H4.out.mono ?_
  rintro e w2 ⟨x, hx, rfl, hc2, hg2⟩
  clear H4
  have Hg2 := Lib.hid hg2
  clear hg2
  by_cases hx0 : x = 0
  · subst hx0
    have HS := Lib.hid (text7_any c A len cap z w2 hc2)
    clear hc2 hx
    go_wp2_with fail
    refine HS.out.mono ?_
    rintro e w3 ⟨t, ht, rfl, hc3, hg3⟩
    have Hg3 := Lib.hid (grown_trans Hg2.out hg3)
    have Hc3 := Lib.hid hc3
    have Ht := Lib.hid ht
    clear HS hg3 hc3 Hg2 ht
    go_wp2_with fail
    go_ret
    exact ⟨t, Ht.out, rfl, Hc3.out, Hg3.out⟩
  have e0 : (x == 0) = false := beq_eq_false_iff_ne.2 hx0
  by_cases hx1 : x = 1
  · subst hx1
    have HP := Lib.hid (pickS_any c A len cap z w2.heap.size 21 (.slice (some ⟨w2.heap.size, 0, none⟩) 21 21) odd _ (cur_alloc hc2 (.cells (scells odd).toArray 9)) (by decide) (by decide) rfl hc2.lt (World.ownsRow_lit w2 (scells odd).toArray 21 (Nat.le_refl _) (by simp [maxLen]) rfl))
    clear hc2 hx
    go_wp2_with fail
    refine HP.out.mono ?_
    rintro e w3 ⟨t, ht, rfl, hc3, hg3⟩
    have Ht3 := Lib.hid (odd_word t ht)
    have Hg3 := Lib.hid (grown_trans Hg2.out (grown_trans (grown_alloc _ _ _) hg3))
    have Hc3 := Lib.hid hc3
    clear HP hg3 hc3 Hg2 ht
    go_wp2_with fail
    go_ret
    exact ⟨t, Ht3.out, rfl, Hc3.out, Hg3.out⟩
  · have e1 : (x == 1) = false := beq_eq_false_iff_ne.2 hx1
    have HP := Lib.hid (pickS_any c A len cap z w2.heap.size 6 (.slice (some ⟨w2.heap.size, 0, none⟩) 6 6) even _ (cur_alloc hc2 (.cells (scells even).toArray 9)) (by decide) (by decide) rfl hc2.lt (World.ownsRow_lit w2 (scells even).toArray 6 (Nat.le_refl _) (by simp [maxLen]) rfl))
    clear hc2 hx
    go_wp2_with fail
    refine HP.out.mono ?_
    rintro e w3 ⟨t, ht, rfl, hc3, hg3⟩
    have Ht3 := Lib.hid (even_word t ht)
    have Hg3 := Lib.hid (grown_trans Hg2.out (grown_trans (grown_alloc _ _ _) hg3))
    have Hc3 := Lib.hid hc3
    clear HP hg3 hc3 Hg2 ht
    go_wp2_with fail
    go_ret
    exact ⟨t, Ht3.out, rfl, Hc3.out, Hg3.out⟩

end Go.Proofs.YtegpcjkcejijpaaGreatDoor.draw
