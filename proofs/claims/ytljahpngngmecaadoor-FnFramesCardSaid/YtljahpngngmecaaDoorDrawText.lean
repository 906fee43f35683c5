/- Drawn texts: l01Text: some bytes, as many as asked. -/
import Derived.Test.YtljahpngngmecaaDoorDraw
import Derived.Test.YtljahpngngmecaaDoorByteInfo
namespace Go.Proofs.YtljahpngngmecaaDoor.draw
open Go.ChangeShapes Go.WideShapes Go.ChangeAt Go.RowKit
set_option linter.unusedVariables false

theorem grown_below {a b d : World} {row : Option Nat} (h : a.grownBy b row) (k : Below a.heap.size b d) : a.grownBy d row :=
  ⟨k.os.trans h.os, k.tape.trans h.tape, k.output.trans h.output, Nat.le_trans h.size k.size, fun i hi hne => (k.block i hi).trans (h.block i hi hne)⟩
theorem kept_own' {w w' : World} {B c : Nat} {e : TypeId} {v : Value} {n : Nat} {xs : List Value} (h : w.ownsRow B e 1 v n xs) (hB : c < B) (hg : w.grownBy w' (some c)) : w'.ownsRow B e 1 v n xs :=
  h.kept hg (by
    cases hv : v.ownBlock with
    | none => exact .inl rfl
    | some k => exact .inr (fun e => by
        have := (h.lt k hv).1
        injection e with e
        omega))
/-- A string of n bytes is returned; nothing but the cursor's block (and new blocks) turns. -/
def GotT (n : Nat) (c : Nat) (A : Option Addr) (len cap : Nat) (z : Nat → Int) (w : World) (e : Ending) (w' : World) : Prop :=
  ∃ l : List UInt8, l.length = n ∧ e = .returned (.string ⟨l.toArray⟩) ∧ Cur w' c A len cap z ∧ w.grownBy w' (some c)

set_option maxRecDepth 100000 in
theorem text_any (c : Nat) (A : Option Addr) (len cap : Nat) (z : Nat → Int) (n : Nat) (w : World) (hc : Cur w c A len cap z) (hn : n ≤ 5000) :
    Calls Tryd.prog 49 #[.pointer (some ⟨c, 0, none⟩), .int .i64 n] w (GotT n c A len cap z w) := by
  obtain ⟨i0, hi, hz0, hz1, hz2⟩ := info_parts binfo.Trydinfo
  have hclt := hc.lt
  have hown1 : (w.alloc (.cells #[] 5)).ownsRow w.heap.size 5 1 (.slice (some ⟨w.heap.size, 0, none⟩) 0 0) 0 (bcells []) := World.ownsRow_lit w #[] 0 (Nat.le_refl _) (by simp [maxLen]) rfl
  have hc1 := cur_alloc hc (.cells #[] 5)
  have hg1 := grown_alloc w (.cells #[] 5) (some c)
  have Hown := Lib.hid hown1
  have Hc := Lib.hid hc1
  have Hg := Lib.hid hg1
  clear hown1 hc hc1 hg1
  go_enter Tryd.func49, Tryd.ntmps49
  go_wp2_with fail
  go_loopw [5, 6] (fun v j wr => ∃ (k : Nat) (l : List UInt8), k ≤ n ∧ j = .int .i64 k ∧ l.length = k ∧ wr.ownsRow w.heap.size 5 1 v k (bcells l) ∧ Cur wr c A len cap z ∧ w.grownBy wr (some c)) (fun _ j _ => n - (intOf j).toNat)
  case atStart => exact ⟨0, [], Nat.zero_le _, rfl, rfl, Hown.out, Hc.out, Hg.out⟩
  case round =>
    clear Hown Hc Hg
    obtain ⟨k, l, hk, rfl, hll, hown, hcur, hgr⟩ := hrel
    have Hll := Lib.hid hll
    clear hll
    by_cases hlt : k < n
    · have HB := Lib.hid (byte_any c A len cap z wr hcur)
      go_wp2_with fail
      refine HB.out.mono ?_
      clear HB
      rintro e w2 ⟨x, hx, rfl, hcur2, hg2⟩
      have hown2 := kept_own' hown hclt hg2
      have hgr2 := grown_trans hgr hg2
      have hws : w.heap.size ≤ w2.heap.size := hgr2.size
      have e3 : IntKind.u8.wrap x = x := by rw [IntKind.wrap_u8]; omega
      clear hown hcur hgr hg2
      go_wp2_with (first | (at_builtin; refine wpList_append_own _ rfl (.tmp 15) (.tmp 19) 22 rfl w.heap.size 5 i0 (.int .u8 0) 1 1 Tryd.underlying22 hi hz0 hz1 hz2 rfl (by decide) _ k _ rfl (hown2.alloc _) ⟨w2.heap.size, 0, none⟩ 1 1 [.int .u8 x] rfl rfl (by exact lit_cells _ _ _) (binfo.one_cell _) (by unfold maxLen; omega) (by omega) (by simp; omega) ?_) | fail)
      intro v3 w3 hown3 hg3 _
      have hb3 : Below w.heap.size w2 w3 := ((Below.refl w.heap.size w2).alloc hws _).grown hg3 (by simp; omega) (fun b hb => (hown2.lt b hb).1)
      have hcur3 := hcur2.below hb3 hclt
      have hgr3 := grown_below hgr2 hb3
      rw [binfo.snoc l x.toNat x (by omega) (by omega)] at hown3
      clear hown2 hcur2 hgr2 hg3 hb3 e3
      go_wp2_with fail
      go_roundw
      case rel => exact ⟨k + 1, l ++ [UInt8.ofNat x.toNat], by omega, by go_num, by simp [Hll.out], hown3, hcur3, hgr3⟩
      case measure => simp [intOf]; omega
    · obtain rfl : k = n := by omega
      have hconv := binfo.conv Hll.out hown
      have Hgr := Lib.hid hgr
      have Hcur := Lib.hid hcur
      clear hown hgr hcur
      go_wp2_with fail
      go_ret
      exact ⟨l, Hll.out, rfl, Hcur.out, Hgr.out⟩
end Go.Proofs.YtljahpngngmecaaDoor.draw
