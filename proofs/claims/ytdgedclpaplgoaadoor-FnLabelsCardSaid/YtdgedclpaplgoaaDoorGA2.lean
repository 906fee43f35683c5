/- Merged: Draw DrawPickS DrawLab ByteInfo DrawLongA DrawLongZ Figure DecimalS. -/
import Derived.Test.YtdgedclpaplgoaaDoorRows
import Derived.Test.YtdgedclpaplgoaaDoorGA0
import Derived.ProofKit
import Derived.OpenShut
import Derived.Lib.ItoaNum
namespace Go.Proofs.YtdgedclpaplgoaaDoor.draw
open Go.ChangeShapes Go.WideShapes Go.ChangeAt Go.RowKit
set_option linter.unusedVariables false

theorem and_bd (x : Int) (m : Nat) (hm : m < 4611686018427387904) : 0 ≤ bits .and .i64 x (m : Int) ∧ bits .and .i64 x (m : Int) ≤ (m : Int) := by
  have h1 : ((BitVec.ofInt 64 x) &&& (BitVec.ofInt 64 (m : Int))).toNat ≤ m := by
    rw [BitVec.toNat_and]
    refine Nat.le_trans Nat.and_le_right ?_
    rw [BitVec.toNat_ofInt]
    omega
  have h2 : bits .and .i64 x (m : Int) = (((BitVec.ofInt 64 x) &&& (BitVec.ofInt 64 (m : Int))).toNat : Int) := by
    show IntKind.i64.wrap (((BitVec.ofInt 64 x) &&& (BitVec.ofInt 64 (m : Int))).toNat : Int) = _
    exact IntWalk.i64_in _ (by omega)
  rw [h2]
  omega

/-- The bytes that the cursor reads: cells of a block below block c. -/
def Code (w : World) (c : Nat) (A : Option Addr) (len : Nat) (z : Nat → Int) : Prop :=
  len ≤ 1048576 ∧ (0 < len → ∃ g o, A = some ⟨g, o, none⟩ ∧ g < c ∧ ∀ j, j < len → 0 ≤ z j ∧ z j < 256 ∧ w.cell? ⟨g, o + j, none⟩ = some (.int .u8 (z j)))
/-- The cursor in block c: its bytes, its place, its mix. -/
def Cur (w : World) (c : Nat) (A : Option Addr) (len cap : Nat) (z : Nat → Int) : Prop :=
  (∃ (i : Nat) (h : Int), i ≤ len ∧ w.heap[c]? = some (.cells #[.slice A len cap, .int .i64 (i : Int), .int .i64 h] 98 (0, 0))) ∧ Code w c A len z

theorem Code.block {w w' : World} {c : Nat} {A : Option Addr} {len : Nat} {z : Nat → Int} (h : Code w c A len z) (hk : ∀ g, g < c → w'.heap[g]? = w.heap[g]?) : Code w' c A len z := by
  refine ⟨h.1, fun hl => ?_⟩
  obtain ⟨g, o, rfl, hg, hz⟩ := h.2 hl
  exact ⟨g, o, rfl, hg, fun j hj => ⟨(hz j hj).1, (hz j hj).2.1, (World.cell?_of_block (hk g hg)).trans (hz j hj).2.2⟩⟩
theorem Cur.lt {w : World} {c : Nat} {A : Option Addr} {len cap : Nat} {z : Nat → Int} (h : Cur w c A len cap z) : c < w.heap.size := by
  obtain ⟨⟨i, q, _, hc⟩, _⟩ := h
  exact (Array.getElem?_eq_some_iff.1 hc).1
/-- The cursor stands where nothing up to its own block has turned. -/
theorem Cur.below {w w' : World} {c : Nat} {A : Option Addr} {len cap : Nat} {z : Nat → Int} {B : Nat} (h : Cur w c A len cap z) (hb : Below B w w') (hB : c < B) : Cur w' c A len cap z := by
  obtain ⟨⟨i, q, h1, hc⟩, hz⟩ := h
  exact ⟨⟨i, q, h1, by rw [hb.block c hB]; exact hc⟩, hz.block fun g hg => hb.block g (by omega)⟩

/-- A number x with P x is returned; nothing but the cursor's block (and new blocks) turns. -/
def Got (P : Int → Prop) (c : Nat) (A : Option Addr) (len cap : Nat) (z : Nat → Int) (w : World) (e : Ending) (w' : World) : Prop :=
  ∃ x : Int, P x ∧ e = .returned (.int .i64 x) ∧ Cur w' c A len cap z ∧ w.grownBy w' (some c)

theorem row_cells {w : World} {c : Nat} {x0 x1 x2 : Value} {t : TypeId} (h : w.heap[c]? = some (.cells #[x0, x1, x2] t (0, 0))) :
    w.cell? ⟨c, 0, none⟩ = some x0 ∧ w.cell? ⟨c, 1, none⟩ = some x1 ∧ w.cell? ⟨c, 2, none⟩ = some x2 ∧ ∀ j, w.frozen? ⟨c, j, none⟩ = false := by
  refine ⟨?_, ?_, ?_, fun j => frozen_of_row w c j _ t h⟩
  · rw [cell_of_row w c 0 _ t (0, 0) h]; rfl
  · rw [cell_of_row w c 1 _ t (0, 0) h]; rfl
  · rw [cell_of_row w c 2 _ t (0, 0) h]; rfl

theorem grown_setCell (w : World) (c j : Nat) (v : Value) : w.grownBy (w.setCell ⟨c, j, none⟩ v) (some c) :=
  ⟨rfl, rfl, rfl, by simp [World.setCell], fun k _ hk => Below.heap_setCell _ _ _ _ (fun e => hk (by rw [e]))⟩

theorem byte_any (c : Nat) (A : Option Addr) (len cap : Nat) (z : Nat → Int) (w : World) (hc : Cur w c A len cap z) :
    Calls Tryd.prog 105 #[.pointer (some ⟨c, 0, none⟩)] w (Got (fun x => 0 ≤ x ∧ x < 256) c A len cap z w) := by
  obtain ⟨⟨i, h, hi1, hrow⟩, hcode⟩ := hc
  have hlen := hcode.1
  obtain ⟨c0, c1, c2, cf⟩ := row_cells hrow
  have f1 := cf 1
  have f2 := cf 2
  have Hrow := Lib.hid hrow
  have Hcode := Lib.hid hcode
  clear cf hrow hcode
  go_enter Tryd.func105, Tryd.ntmps105
  go_wp2_with fail
  generalize wrap64 (wrap64 (h * 6364136223846793005) + 1442695040888963407) = h1
  have hrow1 := heap_setCell_same w c 2 _ _ (.int .i64 h1) Hrow.out
  have hcode1 := Hcode.out.block (w' := w.setCell ⟨c, 2, none⟩ (.int .i64 h1)) (fun g hg => Below.heap_setCell _ _ _ _ (by show g ≠ c; omega))
  have hgr1 := grown_setCell w c 2 (.int .i64 h1)
  simp only [List.setIfInBounds_toArray, List.set_cons_succ, List.set_cons_zero] at hrow1
  generalize w.setCell ⟨c, 2, none⟩ (.int .i64 h1) = w1 at hrow1 hcode1 hgr1 ⊢
  clear c0 c1 c2 f1 f2 Hrow Hcode
  obtain ⟨c0, c1, c2, cf⟩ := row_cells hrow1
  have f1 := cf 1
  have Hrow := Lib.hid hrow1
  have Hcode := Lib.hid hcode1
  have Hgr := Lib.hid hgr1
  clear cf hrow1 hcode1 hgr1
  go_quiet (fail)
  go_wp2_with fail
  have hx := and_bd (bits .xor .i64 (h1 / 8589934592) (h1 / 35184372088832)) 255 (by decide)
  generalize bits .and .i64 (bits .xor .i64 (h1 / 8589934592) (h1 / 35184372088832)) 255 = x at hx ⊢
  generalize bits .xor .i64 (h1 / 8589934592) (h1 / 35184372088832) = y
  generalize h1 / 8589934592 = y1
  generalize h1 / 35184372088832 = y2
  have hx0 : 0 ≤ x ∧ x ≤ 255 := hx
  clear hx
  by_cases hlt : i < len
  · obtain ⟨g, o, rfl, hg, hz⟩ := Hcode.out.2 (by omega)
    obtain ⟨z0, z1, hcell⟩ := hz i hlt
    clear hz
    go_quiet (fail)
    go_wp2_with fail
    go_quiet (fail)
    go_wp2_with fail
    have hy := and_bd (x + z i) 255 (by decide)
    have hy0 : 0 ≤ bits .and .i64 (x + z i) 255 ∧ bits .and .i64 (x + z i) 255 < 256 := by
      have : bits .and .i64 (x + z i) 255 ≤ 255 := hy.2
      exact ⟨hy.1, by omega⟩
    go_ret
    refine ⟨_, hy0, rfl, ⟨⟨i + 1, h1, by omega, ?_⟩, ?_⟩, ?_⟩
    · have e := heap_setCell_same w1 c 1 _ _ (.int .i64 ((i : Int) + 1)) Hrow.out
      simp only [List.setIfInBounds_toArray, List.set_cons_succ, List.set_cons_zero] at e
      exact e
    · exact Hcode.out.block fun g hg => Below.heap_setCell w1 ⟨c, 1, none⟩ _ g (by show g ≠ c; omega)
    · exact grown_trans (grown_drewN Hgr.out _) (grown_setCell _ c 1 _)
  · go_quiet (fail)
    go_wp2_with fail
    go_ret
    exact ⟨x, ⟨by omega, by omega⟩, rfl, ⟨⟨i, h1, hi1, Hrow.out⟩, Hcode.out⟩, grown_drewN (grown_drewN Hgr.out _) _⟩

theorem u8_bd {x : Int} (h : (Lit.int .u8 x).wf = true) : 0 ≤ x ∧ x < 256 := by
  have e1 : IntKind.u8.min = 0 := rfl
  have e2 : IntKind.u8.max = 255 := rfl
  simp [Lit.wf, e1, e2] at h
  omega

set_option maxRecDepth 100000 in
/-- l01New lays the cursor in the next block. -/
theorem new_any (A : Option Addr) (len cap : Nat) (zs : List Int) (w : World) (hr : IsRow .u8 w A len cap zs) (hlen : len ≤ 1048576) :
    Calls Tryd.prog 37 #[.slice A len cap] w fun e w' => ∃ c, e = .returned (.pointer (some ⟨c, 0, none⟩)) ∧ w.heap.size ≤ c ∧ Cur w' c A len cap (fun j => zs.getD j 0) ∧ Below w.heap.size w w' := by
  have hcode : Code w w.heap.size A len (fun j => zs.getD j 0) := ⟨hlen, fun hl => by
    obtain ⟨g, o, rfl, hg, hz⟩ := hr.at_ hl
    exact ⟨g, o, rfl, hg, fun j hj => ⟨(u8_bd (hz j hj).1).1, (u8_bd (hz j hj).1).2, (hz j hj).2⟩⟩⟩
  generalize (fun j => zs.getD j 0) = z at hcode ⊢
  have Hcode := Lib.hid hcode
  clear hcode hr
  go_enter Tryd.func37, Tryd.ntmps37
  go_wp2_with fail
  go_loop [3, 4] (fun a i => ∃ (k : Nat) (h : Int), k ≤ len ∧ i = .int .i64 k ∧ a = .int .i64 h) (fun _ i => len - (intOf i).toNat)
  case atStart => exact ⟨0, _, Nat.zero_le _, rfl, rfl⟩
  case round =>
    obtain ⟨k, h, hk, rfl, rfl⟩ := hrel
    by_cases hlt : k < len
    · obtain ⟨g, o, rfl, hg, hz⟩ := Hcode.out.2 (by omega)
      obtain ⟨z0, z1, hcell⟩ := hz k hlt
      clear hz
      by_cases h4 : k < 4000
      · go_wp2_with fail
        go_round
        case rel => exact ⟨k + 1, _, by omega, by go_num, rfl⟩
        case measure => simp [intOf]; omega
      · go_wp2_with fail
        go_ret
        refine ⟨w.heap.size, rfl, Nat.le_refl _, ⟨⟨0, h, Nat.zero_le _, heap_alloc_new w _⟩, Hcode.out.block fun g hg => Below.heap_alloc w _ g hg⟩, (Below.refl _ _).alloc (Nat.le_refl _) _⟩
    · go_wp2_with fail
      go_ret
      refine ⟨w.heap.size, rfl, Nat.le_refl _, ⟨⟨0, h, Nat.zero_le _, heap_alloc_new w _⟩, Hcode.out.block fun g hg => Below.heap_alloc w _ g hg⟩, (Below.refl _ _).alloc (Nat.le_refl _) _⟩

theorem mod_bd (x n : Int) (hn : 0 < n) : 0 ≤ x % n ∧ x % n < n := ⟨Int.emod_nonneg _ (by omega), Int.emod_lt_of_pos _ hn⟩

theorem below_any (c : Nat) (A : Option Addr) (len cap : Nat) (z : Nat → Int) (n : Int) (w : World) (hc : Cur w c A len cap z) (h0 : 0 < n) (h1 : n ≤ 9223372036854775807) :
    Calls Tryd.prog 71 #[.pointer (some ⟨c, 0, none⟩), .int .i64 n] w (Got (fun x => 0 ≤ x ∧ x < n) c A len cap z w) := by
  have Hc := Lib.hid hc
  clear hc
  by_cases h2 : n ≤ 256
  · go_enter Tryd.func71, Tryd.ntmps71
    go_wp2_with fail
    refine (byte_any c A len cap z _ Hc.out).mono ?_
    rintro e w1 ⟨x, hx, rfl, hc1, hg1⟩
    have Hc1 := Lib.hid hc1
    have Hg1 := Lib.hid hg1
    have Hm := Lib.hid (mod_bd x n h0)
    clear hc1 hg1
    go_wp2_with fail
    go_ret
    exact ⟨_, Hm.out, rfl, Hc1.out, Hg1.out⟩
  · go_enter Tryd.func71, Tryd.ntmps71
    go_wp2_with fail
    refine (byte_any c A len cap z _ Hc.out).mono ?_
    rintro e w1 ⟨x, hx, rfl, hc1, hg1⟩
    go_wp2_with fail
    refine (byte_any c A len cap z _ hc1).mono ?_
    rintro e w2 ⟨y, hy, rfl, hc2, hg2⟩
    go_wp2_with fail
    refine (byte_any c A len cap z _ hc2).mono ?_
    rintro e w3 ⟨t, ht, rfl, hc3, hg3⟩
    go_wp2_with fail
    refine (byte_any c A len cap z _ hc3).mono ?_
    rintro e w4 ⟨u, hu, rfl, hc4, hg4⟩
    have Hc4 := Lib.hid hc4
    have Hg4 := Lib.hid (grown_trans hg1 (grown_trans hg2 (grown_trans hg3 hg4)))
    have Hm := Lib.hid (mod_bd (x * 16777216 + y * 65536 + t * 256 + u) n h0)
    clear hc1 hc2 hc3 hc4 hg1 hg2 hg3 hg4
    go_wp2_with fail
    go_ret
    exact ⟨_, Hm.out, rfl, Hc4.out, Hg4.out⟩
theorem cur_alloc {w : World} {c : Nat} {A : Option Addr} {len cap : Nat} {z : Nat → Int} (h : Cur w c A len cap z) (o : Obj) : Cur (w.alloc o) c A len cap z :=
  h.below ((Below.refl (c + 1) w).alloc h.lt o) (Nat.lt_succ_self c)
theorem grown_alloc (w : World) (o : Obj) (row : Option Nat) : w.grownBy (w.alloc o) row :=
  grown_of_below ((Below.refl _ _).alloc (Nat.le_refl _) o) row
theorem grown_below {a b d : World} {row : Option Nat} (h : a.grownBy b row) (k : Below a.heap.size b d) : a.grownBy d row :=
  ⟨k.os.trans h.os, k.tape.trans h.tape, k.output.trans h.output, Nat.le_trans h.size k.size, fun i hi hne => (k.block i hi).trans (h.block i hi hne)⟩
theorem kept_own' {w w' : World} {B c : Nat} {e : TypeId} {v : Value} {n : Nat} {xs : List Value} (h : w.ownsRow B e 1 v n xs) (hB : c < B) (hg : w.grownBy w' (some c)) : w'.ownsRow B e 1 v n xs :=
  h.kept hg (by
    cases hv : v.ownBlock with
    | none => exact .inl rfl
    | some k => exact .inr (fun e => by
        have := (h.lt k hv).1
        injection e with e
        omega))
end Go.Proofs.YtdgedclpaplgoaaDoor.draw
namespace Go.Proofs.YtdgedclpaplgoaaDoor.draw
open Go.ChangeShapes Go.WideShapes Go.ChangeAt Go.RowKit
set_option linter.unusedVariables false

/-- A string x with P x is returned; nothing but the cursor's block (and new blocks) turns. -/
def GotS (P : ByteArray → Prop) (c : Nat) (A : Option Addr) (len cap : Nat) (z : Nat → Int) (w : World) (e : Ending) (w' : World) : Prop :=
  ∃ x : ByteArray, P x ∧ e = .returned (.string x) ∧ Cur w' c A len cap z ∧ w.grownBy w' (some c)
theorem kept_own {w w' : World} {B c : Nat} {e : TypeId} {v : Value} {n : Nat} {xs : List Value} (h : w.ownsRow B e 1 v n xs) (hB : c < B) (hg : w.grownBy w' (some c)) : w'.ownsRow B e 1 v n xs :=
  h.kept hg (by
    cases hv : v.ownBlock with
    | none => exact .inl rfl
    | some k => exact .inr (fun e => by
        have := (h.lt k hv).1
        injection e with e
        omega))
/-- A string of the list is picked. -/
theorem pickS_any (c : Nat) (A : Option Addr) (len cap : Nat) (z : Nat → Int) (B n : Nat) (v : Value) (l : List ByteArray) (w : World) (hc : Cur w c A len cap z) (h0 : 0 < n) (h1 : n ≤ 1000) (hl : l.length = n)
    (hB : c < B) (hown : w.ownsRow B 9 1 v n (scells l)) :
    Calls Tryd.prog 74 #[.pointer (some ⟨c, 0, none⟩), v] w (GotS (fun x => x ∈ l) c A len cap z w) := by
  have HB := Lib.hid (below_any c A len cap z n w hc (by omega) (by omega))
  have Hkept := Lib.hid (fun w' hg => kept_own (w' := w') hown hB hg)
  rcases hown.2 with ⟨rfl, hn⟩ | ⟨g, cp, cur, rfl, hb, hg, hnc, hcm, hcs, htake⟩
  · omega
  clear hb hg hnc hcm hcs htake hc hown
  have Hl := Lib.hid hl
  clear hl
  go_enter Tryd.func74, Tryd.ntmps74
  go_wp2_with fail
  refine HB.out.mono ?_
  rintro e w1 ⟨x, hx, rfl, hc1, hg1⟩
  obtain ⟨j, rfl⟩ := Int.eq_ofNat_of_zero_le hx.1
  have hj : j < n := by omega
  have hjl : j < l.length := by have := Hl.out; omega
  have hcell : w1.cell? ⟨g, j, none⟩ = some (.string (l.getD j ⟨#[]⟩)) := by
    have h1 := (Hkept.out w1 hg1).cellAt j (by omega)
    rw [h1, scells_get l j hjl]
    simp [List.getD, hjl]
  have hmem : Hid (l.getD j ⟨#[]⟩ ∈ l) := by
    unfold Hid
    rw [List.getD_eq_getElem?_getD, List.getElem?_eq_getElem hjl]
    exact List.getElem_mem hjl
  have Hc1 := Lib.hid hc1
  have Hg1 := Lib.hid hg1
  clear hc1 hg1 hjl HB Hkept
  generalize l.getD j ⟨#[]⟩ = x at hcell hmem
  go_wp2_with fail
  go_ret
  exact ⟨x, hmem.out, rfl, Hc1.out, Hg1.out⟩

end Go.Proofs.YtdgedclpaplgoaaDoor.draw
namespace Go.Proofs.YtdgedclpaplgoaaDoor.draw
open Go.ChangeShapes Go.WideShapes Go.ChangeAt Go.RowKit
set_option linter.unusedVariables false

def labKeyW : List ByteArray := [⟨#[122, 111, 110, 101]⟩, ⟨#[100, 105, 115, 107]⟩, ⟨#[97, 112, 112]⟩, ⟨#[116, 105, 101, 114]⟩, ⟨#[97, 46, 98, 47, 99]⟩, ⟨#[90, 111, 110, 101]⟩]
theorem labKeyW_size : ∀ x ∈ labKeyW, x.size ≤ 5 := by decide
set_option maxRecDepth 100000 in
theorem labKey_any (c : Nat) (A : Option Addr) (len cap : Nat) (z : Nat → Int) (w : World) (hc : Cur w c A len cap z) :
    Calls Tryd.prog 72 #[.pointer (some ⟨c, 0, none⟩)] w (GotS (fun x => x.size ≤ 5) c A len cap z w) := by
  have HP := Lib.hid (pickS_any c A len cap z w.heap.size 6 (.slice (some ⟨w.heap.size, 0, none⟩) 6 6) labKeyW _ (cur_alloc hc (.cells (scells labKeyW).toArray 9)) (by decide) (by decide) rfl hc.lt (World.ownsRow_lit w (scells labKeyW).toArray 6 (Nat.le_refl _) (by simp [maxLen]) rfl))
  clear hc
  go_enter Tryd.func72, Tryd.ntmps72
  go_wp2_with fail
  refine HP.out.mono ?_
  rintro e w3 ⟨t, ht, rfl, hc3, hg3⟩
  have Ht3 := Lib.hid (labKeyW_size t ht)
  have Hg3 := Lib.hid (grown_trans (grown_alloc _ _ _) hg3)
  have Hc3 := Lib.hid hc3
  clear HP hg3 hc3 ht
  go_wp2_with fail
  go_ret
  exact ⟨t, Ht3.out, rfl, Hc3.out, Hg3.out⟩
def labValW : List ByteArray := [⟨#[97]⟩, ⟨#[98]⟩, ⟨#[99]⟩, ⟨#[]⟩, ⟨#[115, 115, 100]⟩, ⟨#[118, 49, 46, 50]⟩]
theorem labValW_size : ∀ x ∈ labValW, x.size ≤ 4 := by decide
set_option maxRecDepth 100000 in
theorem labVal_any (c : Nat) (A : Option Addr) (len cap : Nat) (z : Nat → Int) (w : World) (hc : Cur w c A len cap z) :
    Calls Tryd.prog 73 #[.pointer (some ⟨c, 0, none⟩)] w (GotS (fun x => x.size ≤ 4) c A len cap z w) := by
  have HP := Lib.hid (pickS_any c A len cap z w.heap.size 6 (.slice (some ⟨w.heap.size, 0, none⟩) 6 6) labValW _ (cur_alloc hc (.cells (scells labValW).toArray 9)) (by decide) (by decide) rfl hc.lt (World.ownsRow_lit w (scells labValW).toArray 6 (Nat.le_refl _) (by simp [maxLen]) rfl))
  clear hc
  go_enter Tryd.func73, Tryd.ntmps73
  go_wp2_with fail
  refine HP.out.mono ?_
  rintro e w3 ⟨t, ht, rfl, hc3, hg3⟩
  have Ht3 := Lib.hid (labValW_size t ht)
  have Hg3 := Lib.hid (grown_trans (grown_alloc _ _ _) hg3)
  have Hc3 := Lib.hid hc3
  clear HP hg3 hc3 ht
  go_wp2_with fail
  go_ret
  exact ⟨t, Ht3.out, rfl, Hc3.out, Hg3.out⟩
end Go.Proofs.YtdgedclpaplgoaaDoor.draw
namespace Go.Proofs.YtdgedclpaplgoaaDoor.binfo
open Go.ChangeShapes Go.WideShapes Go.ChangeAt Go.RowKit
set_option linter.unusedVariables false
theorem Trydinfo : (Tryd.prog.info? 5).map (fun i => (i.zero, i.size, i.bytes)) = some (some (.int .u8 0), 1, 1) := by kernel_rfl
theorem conv {w : World} {B : Nat} {v : Value} {l : List UInt8} {n : Nat} (hn : l.length = n) (h : w.ownsRow B 5 1 v n (bcells l)) :
    (convert 22 9 v).run Tryd.prog w = .ok (.string ⟨l.toArray⟩) w :=
  run_convert_own (P := Tryd.prog) w 22 5 9 Tryd.underlying22 Tryd.underlying5 Tryd.underlying9 B v l (by unfold OwnB; rw [hn]; exact h)
theorem snoc (l : List UInt8) (n : Nat) (z : Int) (hz : z = (n : Int)) (h : n < 256) : bcells l ++ [.int .u8 z] = bcells (l ++ [UInt8.ofNat n]) := by
  rw [bcells_append]
  subst hz
  have : (UInt8.ofNat n).toNat = n := by simp; omega
  simp [bcells, this]
theorem one_cell (z : Int) : ∀ u ∈ ([.int .u8 z] : List Value), u.oneCell' = true := by intro u hu; simp at hu; subst hu; rfl
end Go.Proofs.YtdgedclpaplgoaaDoor.binfo
namespace Go.Proofs.YtdgedclpaplgoaaDoor.draw
open Go.ChangeShapes Go.WideShapes Go.ChangeAt Go.RowKit
set_option linter.unusedVariables false

theorem TrydinfoBA : (Tryd.prog.info? 5).map (fun i => (i.zero, i.size, i.bytes)) = some (some (.int .u8 0), 1, 1) := by kernel_rfl

/-- Some string of n bytes. -/
theorem long97_any (n : Nat) (w : World) (hn : n ≤ 20001) :
    Calls Tryd.prog 75 #[.int .i64 n, .int .u8 97] w fun e w' => ∃ t : ByteArray, t.size = n ∧ e = .returned (.string t) ∧ Below w.heap.size w w' := by
  obtain ⟨i0, hi, hz0, hz1, hz2⟩ := info_parts TrydinfoBA
  go_enter Tryd.func75, Tryd.ntmps75
  go_wp2_with (at_make; refine wpList_make_full _ rfl _ _ 22 rfl w.heap.size 5 i0 (.int .u8 0) 1 Tryd.underlying22 hi hz0 hz1 .i64 .i64 (n : Int) (n : Int) n rfl rfl rfl rfl (by rw [hz2]; omega) (by unfold maxLen; omega) (by simp) ?_)
  intro w1 hown1 hg1
  have hb1 : Below w.heap.size w w1 := (Below.refl _ _).grown hg1 (Nat.le_refl _) (fun b hb => by cases hb)
  have Hown : Hid (∃ l : List UInt8, l.length = n ∧ w1.ownsRow w.heap.size 5 1 (.slice (some ⟨w.heap.size, 0, none⟩) n n) n (bcells l)) := by
    refine ⟨List.replicate n 0, by simp, ?_⟩
    have e : bcells (List.replicate n (0 : UInt8)) = (madeCells #[.int .u8 0] n).toList := by rw [toList_madeCells_one]; simp [bcells]
    rw [e]
    simpa using hown1
  have Hb1 := Lib.hid hb1
  clear hown1 hb1 hg1
  go_wp2_with fail
  go_loopw [6] (fun i wr => ∃ k : Nat, k ≤ n ∧ i = .int .i64 k ∧ (∃ l : List UInt8, l.length = n ∧ wr.ownsRow w.heap.size 5 1 (.slice (some ⟨w.heap.size, 0, none⟩) n n) n (bcells l)) ∧ Below w.heap.size w wr) (fun i _ => n - (intOf i).toNat)
  case atStart => exact ⟨0, Nat.zero_le _, rfl, Hown.out, Hb1.out⟩
  case round =>
    clear Hown Hb1
    obtain ⟨k, hk, rfl, ⟨l, hl, hown⟩, hbel⟩ := hrel
    by_cases hlt : k < n
    · have hd := hown.cellAt k (by omega)
      have hf := hown.frozenAt k
      have hln : k < (bcells l).length := by have := hown.1; omega
      rw [List.getElem?_eq_getElem hln] at hd
      have hst := hown.stored k (.int .u8 97)
      have e : (bcells l).set k (.int .u8 97) = bcells (l.set k 97) := by
        unfold bcells
        rw [List.map_set]
        rfl
      rw [e] at hst
      have Hown2 : Hid (∃ l2 : List UInt8, l2.length = n ∧ (wr.setCell ⟨w.heap.size, k, none⟩ (.int .u8 97)).ownsRow w.heap.size 5 1 (.slice (some ⟨w.heap.size, 0, none⟩) n n) n (bcells l2)) := ⟨l.set k 97, by rw [List.length_set]; exact hl, hst.1⟩
      have Hbel2 : Hid (Below w.heap.size w (wr.setCell ⟨w.heap.size, k, none⟩ (.int .u8 97))) := hbel.setCell (Nat.le_refl _) _
      clear hst hown hbel e
      generalize (bcells l)[k] = old at hd
      clear hln hl
      go_wp2_with fail
      go_roundw
      case rel => exact ⟨k + 1, by omega, by go_num, Hown2.out, Hbel2.out⟩
      case measure => simp [intOf]; omega
    · obtain rfl : k = n := by omega
      have hcv := run_convert_own (P := Tryd.prog) wr 22 5 9 Tryd.underlying22 Tryd.underlying5 Tryd.underlying9 w.heap.size _ l (by unfold OwnB; rw [hl]; exact hown)
      have Hl : Hid ((⟨l.toArray⟩ : ByteArray).size = k) := by
        unfold Hid
        show l.toArray.size = k
        rw [List.size_toArray, hl]
      have Hbel := Lib.hid hbel
      clear hown hbel hl
      go_wp2_with fail
      go_ret
      exact ⟨_, Hl.out, rfl, Hbel.out⟩
end Go.Proofs.YtdgedclpaplgoaaDoor.draw
namespace Go.Proofs.YtdgedclpaplgoaaDoor.draw
open Go.ChangeShapes Go.WideShapes Go.ChangeAt Go.RowKit
set_option linter.unusedVariables false

theorem TrydinfoBZ : (Tryd.prog.info? 5).map (fun i => (i.zero, i.size, i.bytes)) = some (some (.int .u8 0), 1, 1) := by kernel_rfl

/-- Some string of n bytes. -/
theorem long122_any (n : Nat) (w : World) (hn : n ≤ 20001) :
    Calls Tryd.prog 75 #[.int .i64 n, .int .u8 122] w fun e w' => ∃ t : ByteArray, t.size = n ∧ e = .returned (.string t) ∧ Below w.heap.size w w' := by
  obtain ⟨i0, hi, hz0, hz1, hz2⟩ := info_parts TrydinfoBZ
  go_enter Tryd.func75, Tryd.ntmps75
  go_wp2_with (at_make; refine wpList_make_full _ rfl _ _ 22 rfl w.heap.size 5 i0 (.int .u8 0) 1 Tryd.underlying22 hi hz0 hz1 .i64 .i64 (n : Int) (n : Int) n rfl rfl rfl rfl (by rw [hz2]; omega) (by unfold maxLen; omega) (by simp) ?_)
  intro w1 hown1 hg1
  have hb1 : Below w.heap.size w w1 := (Below.refl _ _).grown hg1 (Nat.le_refl _) (fun b hb => by cases hb)
  have Hown : Hid (∃ l : List UInt8, l.length = n ∧ w1.ownsRow w.heap.size 5 1 (.slice (some ⟨w.heap.size, 0, none⟩) n n) n (bcells l)) := by
    refine ⟨List.replicate n 0, by simp, ?_⟩
    have e : bcells (List.replicate n (0 : UInt8)) = (madeCells #[.int .u8 0] n).toList := by rw [toList_madeCells_one]; simp [bcells]
    rw [e]
    simpa using hown1
  have Hb1 := Lib.hid hb1
  clear hown1 hb1 hg1
  go_wp2_with fail
  go_loopw [6] (fun i wr => ∃ k : Nat, k ≤ n ∧ i = .int .i64 k ∧ (∃ l : List UInt8, l.length = n ∧ wr.ownsRow w.heap.size 5 1 (.slice (some ⟨w.heap.size, 0, none⟩) n n) n (bcells l)) ∧ Below w.heap.size w wr) (fun i _ => n - (intOf i).toNat)
  case atStart => exact ⟨0, Nat.zero_le _, rfl, Hown.out, Hb1.out⟩
  case round =>
    clear Hown Hb1
    obtain ⟨k, hk, rfl, ⟨l, hl, hown⟩, hbel⟩ := hrel
    by_cases hlt : k < n
    · have hd := hown.cellAt k (by omega)
      have hf := hown.frozenAt k
      have hln : k < (bcells l).length := by have := hown.1; omega
      rw [List.getElem?_eq_getElem hln] at hd
      have hst := hown.stored k (.int .u8 122)
      have e : (bcells l).set k (.int .u8 122) = bcells (l.set k 122) := by
        unfold bcells
        rw [List.map_set]
        rfl
      rw [e] at hst
      have Hown2 : Hid (∃ l2 : List UInt8, l2.length = n ∧ (wr.setCell ⟨w.heap.size, k, none⟩ (.int .u8 122)).ownsRow w.heap.size 5 1 (.slice (some ⟨w.heap.size, 0, none⟩) n n) n (bcells l2)) := ⟨l.set k 122, by rw [List.length_set]; exact hl, hst.1⟩
      have Hbel2 : Hid (Below w.heap.size w (wr.setCell ⟨w.heap.size, k, none⟩ (.int .u8 122))) := hbel.setCell (Nat.le_refl _) _
      clear hst hown hbel e
      generalize (bcells l)[k] = old at hd
      clear hln hl
      go_wp2_with fail
      go_roundw
      case rel => exact ⟨k + 1, by omega, by go_num, Hown2.out, Hbel2.out⟩
      case measure => simp [intOf]; omega
    · obtain rfl : k = n := by omega
      have hcv := run_convert_own (P := Tryd.prog) wr 22 5 9 Tryd.underlying22 Tryd.underlying5 Tryd.underlying9 w.heap.size _ l (by unfold OwnB; rw [hl]; exact hown)
      have Hl : Hid ((⟨l.toArray⟩ : ByteArray).size = k) := by
        unfold Hid
        show l.toArray.size = k
        rw [List.size_toArray, hl]
      have Hbel := Lib.hid hbel
      clear hown hbel hl
      go_wp2_with fail
      go_ret
      exact ⟨_, Hl.out, rfl, Hbel.out⟩
end Go.Proofs.YtdgedclpaplgoaaDoor.draw
namespace Go.Proofs.YtdgedclpaplgoaaDoor.hex
open Go.ChangeShapes Go.WideShapes Go.ChangeAt Go.RowKit
set_option linter.unusedVariables false

/-- The byte of a hexadecimal digit. -/
def fig (n : Nat) : UInt8 := if n < 10 then UInt8.ofNat (48 + n) else UInt8.ofNat (87 + n)

theorem fig_lo (x : Int) (h0 : 0 ≤ x) (h : x < 10) : ((fig x.toNat).toNat : Int) = 48 + x := by
  unfold fig; rw [if_pos (by omega)]; simp; omega
theorem fig_hi (x : Int) (h0 : 10 ≤ x) (h : x < 16) : ((fig x.toNat).toNat : Int) = 97 + x - 10 := by
  unfold fig; rw [if_neg (by omega)]; simp; omega

theorem figure_any (x : Int) (w : World) (h0 : 0 ≤ x) (h1 : x < 16) :
    Calls Tryd.prog 106 #[.int .i64 x] w fun e w' => e = .returned (.int .u8 (fig x.toNat).toNat) ∧ w = w' := by
  by_cases h : x < 10
  · go_enter Tryd.func106, Tryd.ntmps106
    go_wp2
    go_ret
    exact ⟨ret_int (fig_lo x h0 h).symm, rfl⟩
  · have h' : 10 ≤ x := by omega
    go_enter Tryd.func106, Tryd.ntmps106
    go_wp2
    go_ret
    exact ⟨ret_int (by rw [fig_hi x h' h1]; try (simp; done)), rfl⟩

end Go.Proofs.YtdgedclpaplgoaaDoor.hex
namespace Go.Proofs.YtdgedclpaplgoaaDoor.decimal
open Go.ChangeShapes Go.WideShapes Go.ChangeAt Go.RowKit
set_option linter.unusedVariables false

/-- The digits of u, none for 0. -/
def dz (u : Nat) : List UInt8 := if u = 0 then [] else Lib.decDigits u
theorem dz_zero : dz 0 = [] := rfl
theorem dz_pos {u : Nat} (h : 0 < u) : dz u = Lib.decDigits u := by unfold dz; rw [if_neg (by omega)]
theorem dz_step {u : Nat} (h : 0 < u) : dz u = dz (u / 10) ++ [UInt8.ofNat (48 + u % 10)] := by
  rw [dz_pos h, Lib.decDigits]
  by_cases h1 : u < 10
  · rw [dif_pos h1]
    have : u / 10 = 0 := by omega
    rw [this, dz_zero, Nat.mod_eq_of_lt h1]; rfl
  · rw [dif_neg h1, dz_pos (by omega : 0 < u / 10)]
theorem fig_dec (u : Nat) (h : u < 10) : hex.fig u = UInt8.ofNat (48 + u) := by unfold hex.fig; rw [if_pos h]

theorem conv_one (w : World) (x : UInt8) :
    (convert 22 9 (.slice (some ⟨w.heap.size, 0, none⟩) 1 1)).run Tryd.prog (w.alloc (.cells #[.int .u8 x.toNat] 5)) = .ok (.string ⟨#[x]⟩) (w.alloc (.cells #[.int .u8 x.toNat] 5)) := by
  have h := run_convert_own (P := Tryd.prog) (w.alloc (.cells #[.int .u8 x.toNat] 5)) 22 5 9 Tryd.underlying22 Tryd.underlying5 Tryd.underlying9 w.heap.size (.slice (some ⟨w.heap.size, 0, none⟩) 1 1) [x] (World.ownsRow_lit (size := 1) (base := w.heap.size) (e := 5) w #[.int .u8 x.toNat] 1 (Nat.le_refl _) (by simp [maxLen]) rfl)
  exact h

theorem spec_zero (w : World) :
    Calls Tryd.prog 76 #[.int .i64 0] w fun e w' => e = .returned (.string ⟨(Lib.itoa 0).toArray⟩) ∧ Below w.heap.size w w' := by
  have Hi : Hid (Lib.itoa 0 = [48]) := by unfold Hid; rw [Lib.itoa, if_neg (by omega), Lib.decDigits]; rfl
  go_enter Tryd.func76, Tryd.ntmps76
  go_wp2_with fail
  go_ret
  exact ⟨by rw [Hi.out]; rfl, Below.refl _ _⟩

theorem spec_pos (u0 : Nat) (w : World) (h0 : 0 < u0) (h1 : (u0 : Int) ≤ 9223372036854775807) :
    Calls Tryd.prog 76 #[.int .i64 u0] w fun e w' => e = .returned (.string ⟨(Lib.itoa u0).toArray⟩) ∧ Below w.heap.size w w' := by
  have hi : Lib.itoa (u0 : Int) = dz u0 := by rw [dz_pos h0, Lib.itoa, if_neg (by omega)]; simp
  have Hi := Lib.hid hi
  clear hi
  have hz : ((u0 : Int) == 0) = false := beq_eq_false_iff_ne.2 (by omega)
  go_enter Tryd.func76, Tryd.ntmps76
  go_wp2_with fail
  go_loopw [0, 4] (fun a s wr => ∃ (u : Nat) (acc : List UInt8), u ≤ u0 ∧ a = .int .i64 u ∧ s = .string ⟨acc.toArray⟩ ∧ acc.length ≤ u0 - u ∧ Hid (dz u ++ acc = dz u0) ∧ Below w.heap.size w wr) (fun a _ _ => (intOf a).toNat)
  case atStart => exact ⟨u0, [], Nat.le_refl _, rfl, rfl, by simp, by unfold Hid; simp, Below.refl _ _⟩
  case round =>
    obtain ⟨u, acc, hu, rfl, rfl, hlen, hd, hbel⟩ := hrel
    by_cases hp : 0 < u
    · have e1 : ((u : Int) != 0) = true := by rw [bne_iff_ne]; omega
      have hs : dz (u / 10) ++ (UInt8.ofNat (48 + u % 10) :: acc) = dz u0 := by rw [← hd.out, dz_step hp]; simp
      have Hs := Lib.hid hs
      have hf : hex.fig ((u : Int) % 10).toNat = hex.fig (u % 10) := by congr 1
      have Hf : Hid (hex.fig (u % 10) = UInt8.ofNat (48 + u % 10)) := fig_dec _ (by omega)
      have Hc := Lib.hid (fun W => conv_one W (hex.fig (u % 10)))
      clear hs hd
      go_wp2_with fail
      refine (hex.figure_any _ _ (by omega) (by omega)).mono ?_
      rintro e w1 ⟨rfl, rfl⟩
      have hc := Hc.out wr
      have hbel2 := hbel.alloc hbel.size (.cells #[.int .u8 (hex.fig (u % 10)).toNat] 5)
      rw [hf]
      clear Hc hf
      go_wp2_with fail
      go_roundw
      case rel => exact ⟨u / 10, UInt8.ofNat (48 + u % 10) :: acc, by omega, by go_num, by rw [← Hf.out]; exact congrArg Value.string (bytes_cons _ _), by simp; omega, Hs, hbel2⟩
      case measure => simp [intOf]; omega
    · obtain rfl : u = 0 := by omega
      have ha : acc = dz u0 := by rw [← hd.out, dz_zero]; rfl
      subst ha
      go_wp2_with fail
      go_ret
      exact ⟨by rw [Hi.out]; rfl, hbel⟩

theorem spec_neg (u0 : Nat) (w : World) (h0 : 0 < u0) (h1 : (u0 : Int) ≤ 9223372036854775808) :
    Calls Tryd.prog 76 #[.int .i64 (-(u0 : Int))] w fun e w' => e = .returned (.string ⟨(Lib.itoa (-(u0 : Int))).toArray⟩) ∧ Below w.heap.size w w' := by
  have hi : Lib.itoa (-(u0 : Int)) = 45 :: dz u0 := by rw [dz_pos h0, Lib.itoa, if_pos (by omega)]; simp
  have Hi := Lib.hid hi
  clear hi
  have hz : (-(u0 : Int) == 0) = false := beq_eq_false_iff_ne.2 (by omega)
  have hneg : decide (-(u0 : Int) < 0) = true := by simp; omega
  go_enter Tryd.func76, Tryd.ntmps76
  go_wp2_with fail
  go_loopw [0, 4] (fun a s wr => ∃ (u : Nat) (acc : List UInt8), u ≤ u0 ∧ a = .int .i64 (-(u : Int)) ∧ s = .string ⟨acc.toArray⟩ ∧ (u = 0 ∨ 2 * acc.length + u ≤ u0 + 2) ∧ 2 * acc.length ≤ u0 + 4 ∧ Hid (dz u ++ acc = dz u0) ∧ Below w.heap.size w wr) (fun a _ _ => (-(intOf a)).toNat)
  case atStart => exact ⟨u0, [], Nat.le_refl _, rfl, rfl, by simp, by simp, by unfold Hid; simp, Below.refl _ _⟩
  case round =>
    obtain ⟨u, acc, hu, rfl, rfl, hlen, hlen2, hd, hbel⟩ := hrel
    by_cases hp : 0 < u
    · have hlen3 : 2 * acc.length + u ≤ u0 + 2 := by omega
      clear hlen
      have e1 : (-(u : Int) != 0) = true := by rw [bne_iff_ne]; omega
      have e2 : (-(u : Int)).tmod 10 = -((u : Int) % 10) := by rw [Int.neg_tmod, Int.tmod_eq_emod_of_nonneg (by omega)]
      have e3 : (-(u : Int)).tdiv 10 = -((u : Int) / 10) := by rw [Int.neg_tdiv, Int.tdiv_eq_ediv_of_nonneg (by omega)]
      have hs : dz (u / 10) ++ (UInt8.ofNat (48 + u % 10) :: acc) = dz u0 := by rw [← hd.out, dz_step hp]; simp
      have Hs := Lib.hid hs
      have hf : hex.fig ((u : Int) % 10).toNat = hex.fig (u % 10) := by congr 1
      have Hf : Hid (hex.fig (u % 10) = UInt8.ofNat (48 + u % 10)) := fig_dec _ (by omega)
      have Hc := Lib.hid (fun W => conv_one W (hex.fig (u % 10)))
      have hq : (-((u : Int) / 10)) = -((u / 10 : Nat) : Int) := by omega
      have Hq := Lib.hid hq
      clear hs hd hq
      by_cases hm : u % 10 = 0
      · have hm0 : (u : Int) % 10 = 0 := by omega
        have Hm := Lib.hid hm
        have hf0 : hex.fig (0 : Int).toNat = hex.fig (u % 10) := by rw [hm]; rfl
        clear hm hf
        go_wp2_with fail
        refine (hex.figure_any _ _ (by omega) (by omega)).mono ?_
        rintro e w1 ⟨rfl, rfl⟩
        have hc := Hc.out wr
        have hbel2 := hbel.alloc hbel.size (.cells #[.int .u8 (hex.fig (u % 10)).toNat] 5)
        rw [hf0]
        clear Hc hf0 hm0
        go_wp2_with fail
        go_roundw
        case rel => exact ⟨u / 10, UInt8.ofNat (48 + u % 10) :: acc, by omega, by rw [Hq.out], by rw [← Hf.out]; exact congrArg Value.string (bytes_cons _ _), by simp; omega, by simp; omega, Hs, hbel2⟩
        case measure => simp [intOf]; omega
      · have hlt : decide (-((u : Int) % 10) < 0) = true := by simp; omega
        have hlt2 : 0 < (u : Int) % 10 := by omega
        go_wp2_with fail
        refine (hex.figure_any _ _ (by omega) (by omega)).mono ?_
        rintro e w1 ⟨rfl, rfl⟩
        have hc := Hc.out wr
        have hbel2 := hbel.alloc hbel.size (.cells #[.int .u8 (hex.fig (u % 10)).toNat] 5)
        rw [hf]
        clear Hc hf
        go_wp2_with fail
        go_roundw
        case rel => exact ⟨u / 10, UInt8.ofNat (48 + u % 10) :: acc, by omega, by rw [Hq.out], by rw [← Hf.out]; exact congrArg Value.string (bytes_cons _ _), by simp; omega, by simp; omega, Hs, hbel2⟩
        case measure => simp [intOf]; omega
    · obtain rfl : u = 0 := by omega
      have ha : acc = dz u0 := by rw [← hd.out, dz_zero]; rfl
      subst ha
      go_wp2_with fail
      go_ret
      exact ⟨by rw [Hi.out]; exact ret_str (bytes_cons _ _), hbel⟩

/-- spec.Decimal at every int. -/
theorem spec_any (n : Int) (w : World) (h0 : -9223372036854775808 ≤ n) (h1 : n ≤ 9223372036854775807) :
    Calls Tryd.prog 76 #[.int .i64 n] w fun e w' => e = .returned (.string ⟨(Lib.itoa n).toArray⟩) ∧ Below w.heap.size w w' := by
  by_cases hz : n = 0
  · subst hz; exact spec_zero w
  · by_cases hp : 0 < n
    · obtain ⟨u, rfl⟩ := Int.eq_ofNat_of_zero_le (show 0 ≤ n by omega)
      exact spec_pos u w (by omega) h1
    · obtain ⟨u, hu⟩ := Int.eq_ofNat_of_zero_le (show 0 ≤ -n by omega)
      obtain rfl : n = -(u : Int) := by omega
      exact spec_neg u w (by omega) (by omega)
end Go.Proofs.YtdgedclpaplgoaaDoor.decimal
