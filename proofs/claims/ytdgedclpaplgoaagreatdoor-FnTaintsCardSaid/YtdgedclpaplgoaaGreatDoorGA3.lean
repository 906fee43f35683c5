/- Merged: Draw DrawPickS DrawLab DrawOnce BigL. -/
import Derived.Test.YtdgedclpaplgoaaGreatDoorRows
import Derived.Test.YtdgedclpaplgoaaGreatDoorGA0
import Derived.ProofKit
import Derived.OpenShut
namespace Go.Proofs.YtdgedclpaplgoaaGreatDoor.draw
open Go.ChangeShapes Go.WideShapes Go.ChangeAt Go.RowKit
set_option linter.unusedVariables false

theorem and_bd (x : Int) (m : Nat) (hm : m < 4611686018427387904) : 0 ≤ bits .and .i64 x (m : Int) ∧ bits .and .i64 x (m : Int) ≤ (m : Int) := by
  have h1 : ((BitVec.ofInt 64 x) &&& (BitVec.ofInt 64 (m : Int))).toNat ≤ m := by
    rw [BitVec.toNat_and]
    refine Nat.le_trans Nat.and_le_right ?_
    rw [BitVec.toNat_ofInt]
    omega
  have h2 : bits .and .i64 x (m : Int) = (((BitVec.ofInt 64 x) &&& (BitVec.ofInt 64 (m : Int))).toNat : Int) := by
    show IntKind.i64.wrap (((BitVec.ofInt 64 x) &&& (BitVec.ofInt 64 (m : Int))).toNat : Int) = _
    exact IntWalk.i64_in _ (by omega)
  rw [h2]
  omega

/-- The bytes that the cursor reads: cells of a block below block c. -/
def Code (w : World) (c : Nat) (A : Option Addr) (len : Nat) (z : Nat → Int) : Prop :=
  len ≤ 1048576 ∧ (0 < len → ∃ g o, A = some ⟨g, o, none⟩ ∧ g < c ∧ ∀ j, j < len → 0 ≤ z j ∧ z j < 256 ∧ w.cell? ⟨g, o + j, none⟩ = some (.int .u8 (z j)))
/-- The cursor in block c: its bytes, its place, its mix. -/
def Cur (w : World) (c : Nat) (A : Option Addr) (len cap : Nat) (z : Nat → Int) : Prop :=
  (∃ (i : Nat) (h : Int), i ≤ len ∧ w.heap[c]? = some (.cells #[.slice A len cap, .int .i64 (i : Int), .int .i64 h] 87 (0, 0))) ∧ Code w c A len z

theorem Code.block {w w' : World} {c : Nat} {A : Option Addr} {len : Nat} {z : Nat → Int} (h : Code w c A len z) (hk : ∀ g, g < c → w'.heap[g]? = w.heap[g]?) : Code w' c A len z := by
  refine ⟨h.1, fun hl => ?_⟩
  obtain ⟨g, o, rfl, hg, hz⟩ := h.2 hl
  exact ⟨g, o, rfl, hg, fun j hj => ⟨(hz j hj).1, (hz j hj).2.1, (World.cell?_of_block (hk g hg)).trans (hz j hj).2.2⟩⟩
theorem Cur.lt {w : World} {c : Nat} {A : Option Addr} {len cap : Nat} {z : Nat → Int} (h : Cur w c A len cap z) : c < w.heap.size := by
  obtain ⟨⟨i, q, _, hc⟩, _⟩ := h
  exact (Array.getElem?_eq_some_iff.1 hc).1
/-- The cursor stands where nothing up to its own block has turned. -/
theorem Cur.below {w w' : World} {c : Nat} {A : Option Addr} {len cap : Nat} {z : Nat → Int} {B : Nat} (h : Cur w c A len cap z) (hb : Below B w w') (hB : c < B) : Cur w' c A len cap z := by
  obtain ⟨⟨i, q, h1, hc⟩, hz⟩ := h
  exact ⟨⟨i, q, h1, by rw [hb.block c hB]; exact hc⟩, hz.block fun g hg => hb.block g (by omega)⟩

/-- A number x with P x is returned; nothing but the cursor's block (and new blocks) turns. -/
def Got (P : Int → Prop) (c : Nat) (A : Option Addr) (len cap : Nat) (z : Nat → Int) (w : World) (e : Ending) (w' : World) : Prop :=
  ∃ x : Int, P x ∧ e = .returned (.int .i64 x) ∧ Cur w' c A len cap z ∧ w.grownBy w' (some c)

theorem row_cells {w : World} {c : Nat} {x0 x1 x2 : Value} {t : TypeId} (h : w.heap[c]? = some (.cells #[x0, x1, x2] t (0, 0))) :
    w.cell? ⟨c, 0, none⟩ = some x0 ∧ w.cell? ⟨c, 1, none⟩ = some x1 ∧ w.cell? ⟨c, 2, none⟩ = some x2 ∧ ∀ j, w.frozen? ⟨c, j, none⟩ = false := by
  refine ⟨?_, ?_, ?_, fun j => frozen_of_row w c j _ t h⟩
  · rw [cell_of_row w c 0 _ t (0, 0) h]; rfl
  · rw [cell_of_row w c 1 _ t (0, 0) h]; rfl
  · rw [cell_of_row w c 2 _ t (0, 0) h]; rfl

theorem grown_setCell (w : World) (c j : Nat) (v : Value) : w.grownBy (w.setCell ⟨c, j, none⟩ v) (some c) :=
  ⟨rfl, rfl, rfl, by simp [World.setCell], fun k _ hk => Below.heap_setCell _ _ _ _ (fun e => hk (by rw [e]))⟩

theorem byte_any (c : Nat) (A : Option Addr) (len cap : Nat) (z : Nat → Int) (w : World) (hc : Cur w c A len cap z) :
    Calls Tryz.prog 70 #[.pointer (some ⟨c, 0, none⟩)] w (Got (fun x => 0 ≤ x ∧ x < 256) c A len cap z w) := by
  obtain ⟨⟨i, h, hi1, hrow⟩, hcode⟩ := hc
  have hlen := hcode.1
  obtain ⟨c0, c1, c2, cf⟩ := row_cells hrow
  have f1 := cf 1
  have f2 := cf 2
  have Hrow := Lib.hid hrow
  have Hcode := Lib.hid hcode
  clear cf hrow hcode
  go_enter Tryz.func70, Tryz.ntmps70
  go_wp2_with fail
  generalize wrap64 (wrap64 (h * 6364136223846793005) + 1442695040888963407) = h1
  have hrow1 := heap_setCell_same w c 2 _ _ (.int .i64 h1) Hrow.out
  have hcode1 := Hcode.out.block (w' := w.setCell ⟨c, 2, none⟩ (.int .i64 h1)) (fun g hg => Below.heap_setCell _ _ _ _ (by show g ≠ c; omega))
  have hgr1 := grown_setCell w c 2 (.int .i64 h1)
  simp only [List.setIfInBounds_toArray, List.set_cons_succ, List.set_cons_zero] at hrow1
  generalize w.setCell ⟨c, 2, none⟩ (.int .i64 h1) = w1 at hrow1 hcode1 hgr1 ⊢
  clear c0 c1 c2 f1 f2 Hrow Hcode
  obtain ⟨c0, c1, c2, cf⟩ := row_cells hrow1
  have f1 := cf 1
  have Hrow := Lib.hid hrow1
  have Hcode := Lib.hid hcode1
  have Hgr := Lib.hid hgr1
  clear cf hrow1 hcode1 hgr1
  go_quiet (fail)
  go_wp2_with fail
  have hx := and_bd (bits .xor .i64 (h1 / 8589934592) (h1 / 35184372088832)) 255 (by decide)
  generalize bits .and .i64 (bits .xor .i64 (h1 / 8589934592) (h1 / 35184372088832)) 255 = x at hx ⊢
  generalize bits .xor .i64 (h1 / 8589934592) (h1 / 35184372088832) = y
  generalize h1 / 8589934592 = y1
  generalize h1 / 35184372088832 = y2
  have hx0 : 0 ≤ x ∧ x ≤ 255 := hx
  clear hx
  by_cases hlt : i < len
  · obtain ⟨g, o, rfl, hg, hz⟩ := Hcode.out.2 (by omega)
    obtain ⟨z0, z1, hcell⟩ := hz i hlt
    clear hz
    go_quiet (fail)
    go_wp2_with fail
    go_quiet (fail)
    go_wp2_with fail
    have hy := and_bd (x + z i) 255 (by decide)
    have hy0 : 0 ≤ bits .and .i64 (x + z i) 255 ∧ bits .and .i64 (x + z i) 255 < 256 := by
      have : bits .and .i64 (x + z i) 255 ≤ 255 := hy.2
      exact ⟨hy.1, by omega⟩
    go_ret
    refine ⟨_, hy0, rfl, ⟨⟨i + 1, h1, by omega, ?_⟩, ?_⟩, ?_⟩
    · have e := heap_setCell_same w1 c 1 _ _ (.int .i64 ((i : Int) + 1)) Hrow.out
      simp only [List.setIfInBounds_toArray, List.set_cons_succ, List.set_cons_zero] at e
      exact e
    · exact Hcode.out.block fun g hg => Below.heap_setCell w1 ⟨c, 1, none⟩ _ g (by show g ≠ c; omega)
    · exact grown_trans (grown_drewN Hgr.out _) (grown_setCell _ c 1 _)
  · go_quiet (fail)
    go_wp2_with fail
    go_ret
    exact ⟨x, ⟨by omega, by omega⟩, rfl, ⟨⟨i, h1, hi1, Hrow.out⟩, Hcode.out⟩, grown_drewN (grown_drewN Hgr.out _) _⟩

theorem u8_bd {x : Int} (h : (Lit.int .u8 x).wf = true) : 0 ≤ x ∧ x < 256 := by
  have e1 : IntKind.u8.min = 0 := rfl
  have e2 : IntKind.u8.max = 255 := rfl
  simp [Lit.wf, e1, e2] at h
  omega

set_option maxRecDepth 100000 in
/-- l01New lays the cursor in the next block. -/
theorem new_any (A : Option Addr) (len cap : Nat) (zs : List Int) (w : World) (hr : IsRow .u8 w A len cap zs) (hlen : len ≤ 1048576) :
    Calls Tryz.prog 30 #[.slice A len cap] w fun e w' => ∃ c, e = .returned (.pointer (some ⟨c, 0, none⟩)) ∧ w.heap.size ≤ c ∧ Cur w' c A len cap (fun j => zs.getD j 0) ∧ Below w.heap.size w w' := by
  have hcode : Code w w.heap.size A len (fun j => zs.getD j 0) := ⟨hlen, fun hl => by
    obtain ⟨g, o, rfl, hg, hz⟩ := hr.at_ hl
    exact ⟨g, o, rfl, hg, fun j hj => ⟨(u8_bd (hz j hj).1).1, (u8_bd (hz j hj).1).2, (hz j hj).2⟩⟩⟩
  generalize (fun j => zs.getD j 0) = z at hcode ⊢
  have Hcode := Lib.hid hcode
  clear hcode hr
  go_enter Tryz.func30, Tryz.ntmps30
  go_wp2_with fail
  go_loop [3, 4] (fun a i => ∃ (k : Nat) (h : Int), k ≤ len ∧ i = .int .i64 k ∧ a = .int .i64 h) (fun _ i => len - (intOf i).toNat)
  case atStart => exact ⟨0, _, Nat.zero_le _, rfl, rfl⟩
  case round =>
    obtain ⟨k, h, hk, rfl, rfl⟩ := hrel
    by_cases hlt : k < len
    · obtain ⟨g, o, rfl, hg, hz⟩ := Hcode.out.2 (by omega)
      obtain ⟨z0, z1, hcell⟩ := hz k hlt
      clear hz
      by_cases h4 : k < 4000
      · go_wp2_with fail
        go_round
        case rel => exact ⟨k + 1, _, by omega, by go_num, rfl⟩
        case measure => simp [intOf]; omega
      · go_wp2_with fail
        go_ret
        refine ⟨w.heap.size, rfl, Nat.le_refl _, ⟨⟨0, h, Nat.zero_le _, heap_alloc_new w _⟩, Hcode.out.block fun g hg => Below.heap_alloc w _ g hg⟩, (Below.refl _ _).alloc (Nat.le_refl _) _⟩
    · go_wp2_with fail
      go_ret
      refine ⟨w.heap.size, rfl, Nat.le_refl _, ⟨⟨0, h, Nat.zero_le _, heap_alloc_new w _⟩, Hcode.out.block fun g hg => Below.heap_alloc w _ g hg⟩, (Below.refl _ _).alloc (Nat.le_refl _) _⟩

theorem mod_bd (x n : Int) (hn : 0 < n) : 0 ≤ x % n ∧ x % n < n := ⟨Int.emod_nonneg _ (by omega), Int.emod_lt_of_pos _ hn⟩

theorem below_any (c : Nat) (A : Option Addr) (len cap : Nat) (z : Nat → Int) (n : Int) (w : World) (hc : Cur w c A len cap z) (h0 : 0 < n) (h1 : n ≤ 9223372036854775807) :
    Calls Tryz.prog 31 #[.pointer (some ⟨c, 0, none⟩), .int .i64 n] w (Got (fun x => 0 ≤ x ∧ x < n) c A len cap z w) := by
  have Hc := Lib.hid hc
  clear hc
  by_cases h2 : n ≤ 256
  · go_enter Tryz.func31, Tryz.ntmps31
    go_wp2_with fail
    refine (byte_any c A len cap z _ Hc.out).mono ?_
    rintro e w1 ⟨x, hx, rfl, hc1, hg1⟩
    have Hc1 := Lib.hid hc1
    have Hg1 := Lib.hid hg1
    have Hm := Lib.hid (mod_bd x n h0)
    clear hc1 hg1
    go_wp2_with fail
    go_ret
    exact ⟨_, Hm.out, rfl, Hc1.out, Hg1.out⟩
  · go_enter Tryz.func31, Tryz.ntmps31
    go_wp2_with fail
    refine (byte_any c A len cap z _ Hc.out).mono ?_
    rintro e w1 ⟨x, hx, rfl, hc1, hg1⟩
    go_wp2_with fail
    refine (byte_any c A len cap z _ hc1).mono ?_
    rintro e w2 ⟨y, hy, rfl, hc2, hg2⟩
    go_wp2_with fail
    refine (byte_any c A len cap z _ hc2).mono ?_
    rintro e w3 ⟨t, ht, rfl, hc3, hg3⟩
    go_wp2_with fail
    refine (byte_any c A len cap z _ hc3).mono ?_
    rintro e w4 ⟨u, hu, rfl, hc4, hg4⟩
    have Hc4 := Lib.hid hc4
    have Hg4 := Lib.hid (grown_trans hg1 (grown_trans hg2 (grown_trans hg3 hg4)))
    have Hm := Lib.hid (mod_bd (x * 16777216 + y * 65536 + t * 256 + u) n h0)
    clear hc1 hc2 hc3 hc4 hg1 hg2 hg3 hg4
    go_wp2_with fail
    go_ret
    exact ⟨_, Hm.out, rfl, Hc4.out, Hg4.out⟩
theorem cur_alloc {w : World} {c : Nat} {A : Option Addr} {len cap : Nat} {z : Nat → Int} (h : Cur w c A len cap z) (o : Obj) : Cur (w.alloc o) c A len cap z :=
  h.below ((Below.refl (c + 1) w).alloc h.lt o) (Nat.lt_succ_self c)
theorem grown_alloc (w : World) (o : Obj) (row : Option Nat) : w.grownBy (w.alloc o) row :=
  grown_of_below ((Below.refl _ _).alloc (Nat.le_refl _) o) row
theorem grown_below {a b d : World} {row : Option Nat} (h : a.grownBy b row) (k : Below a.heap.size b d) : a.grownBy d row :=
  ⟨k.os.trans h.os, k.tape.trans h.tape, k.output.trans h.output, Nat.le_trans h.size k.size, fun i hi hne => (k.block i hi).trans (h.block i hi hne)⟩
theorem kept_own' {w w' : World} {B c : Nat} {e : TypeId} {v : Value} {n : Nat} {xs : List Value} (h : w.ownsRow B e 1 v n xs) (hB : c < B) (hg : w.grownBy w' (some c)) : w'.ownsRow B e 1 v n xs :=
  h.kept hg (by
    cases hv : v.ownBlock with
    | none => exact .inl rfl
    | some k => exact .inr (fun e => by
        have := (h.lt k hv).1
        injection e with e
        omega))
end Go.Proofs.YtdgedclpaplgoaaGreatDoor.draw
namespace Go.Proofs.YtdgedclpaplgoaaGreatDoor.draw
open Go.ChangeShapes Go.WideShapes Go.ChangeAt Go.RowKit
set_option linter.unusedVariables false

/-- A string x with P x is returned; nothing but the cursor's block (and new blocks) turns. -/
def GotS (P : ByteArray → Prop) (c : Nat) (A : Option Addr) (len cap : Nat) (z : Nat → Int) (w : World) (e : Ending) (w' : World) : Prop :=
  ∃ x : ByteArray, P x ∧ e = .returned (.string x) ∧ Cur w' c A len cap z ∧ w.grownBy w' (some c)
theorem kept_own {w w' : World} {B c : Nat} {e : TypeId} {v : Value} {n : Nat} {xs : List Value} (h : w.ownsRow B e 1 v n xs) (hB : c < B) (hg : w.grownBy w' (some c)) : w'.ownsRow B e 1 v n xs :=
  h.kept hg (by
    cases hv : v.ownBlock with
    | none => exact .inl rfl
    | some k => exact .inr (fun e => by
        have := (h.lt k hv).1
        injection e with e
        omega))
/-- A string of the list is picked. -/
theorem pickS_any (c : Nat) (A : Option Addr) (len cap : Nat) (z : Nat → Int) (B n : Nat) (v : Value) (l : List ByteArray) (w : World) (hc : Cur w c A len cap z) (h0 : 0 < n) (h1 : n ≤ 1000) (hl : l.length = n)
    (hB : c < B) (hown : w.ownsRow B 9 1 v n (scells l)) :
    Calls Tryz.prog 72 #[.pointer (some ⟨c, 0, none⟩), v] w (GotS (fun x => x ∈ l) c A len cap z w) := by
  have HB := Lib.hid (below_any c A len cap z n w hc (by omega) (by omega))
  have Hkept := Lib.hid (fun w' hg => kept_own (w' := w') hown hB hg)
  rcases hown.2 with ⟨rfl, hn⟩ | ⟨g, cp, cur, rfl, hb, hg, hnc, hcm, hcs, htake⟩
  · omega
  clear hb hg hnc hcm hcs htake hc hown
  have Hl := Lib.hid hl
  clear hl
  go_enter Tryz.func72, Tryz.ntmps72
  go_wp2_with fail
  refine HB.out.mono ?_
  rintro e w1 ⟨x, hx, rfl, hc1, hg1⟩
  obtain ⟨j, rfl⟩ := Int.eq_ofNat_of_zero_le hx.1
  have hj : j < n := by omega
  have hjl : j < l.length := by have := Hl.out; omega
  have hcell : w1.cell? ⟨g, j, none⟩ = some (.string (l.getD j ⟨#[]⟩)) := by
    have h1 := (Hkept.out w1 hg1).cellAt j (by omega)
    rw [h1, scells_get l j hjl]
    simp [List.getD, hjl]
  have hmem : Hid (l.getD j ⟨#[]⟩ ∈ l) := by
    unfold Hid
    rw [List.getD_eq_getElem?_getD, List.getElem?_eq_getElem hjl]
    exact List.getElem_mem hjl
  have Hc1 := Lib.hid hc1
  have Hg1 := Lib.hid hg1
  clear hc1 hg1 hjl HB Hkept
  generalize l.getD j ⟨#[]⟩ = x at hcell hmem
  go_wp2_with fail
  go_ret
  exact ⟨x, hmem.out, rfl, Hc1.out, Hg1.out⟩

end Go.Proofs.YtdgedclpaplgoaaGreatDoor.draw
namespace Go.Proofs.YtdgedclpaplgoaaGreatDoor.draw
open Go.ChangeShapes Go.WideShapes Go.ChangeAt Go.RowKit
set_option linter.unusedVariables false

def labKeyW : List ByteArray := [⟨#[122, 111, 110, 101]⟩, ⟨#[100, 105, 115, 107]⟩, ⟨#[97, 112, 112]⟩, ⟨#[116, 105, 101, 114]⟩, ⟨#[97, 46, 98, 47, 99]⟩, ⟨#[90, 111, 110, 101]⟩]
theorem labKeyW_size : ∀ x ∈ labKeyW, x.size ≤ 5 := by decide
set_option maxRecDepth 100000 in
theorem labKey_any (c : Nat) (A : Option Addr) (len cap : Nat) (z : Nat → Int) (w : World) (hc : Cur w c A len cap z) :
    Calls Tryz.prog 113 #[.pointer (some ⟨c, 0, none⟩)] w (GotS (fun x => x.size ≤ 5) c A len cap z w) := by
  have HP := Lib.hid (pickS_any c A len cap z w.heap.size 6 (.slice (some ⟨w.heap.size, 0, none⟩) 6 6) labKeyW _ (cur_alloc hc (.cells (scells labKeyW).toArray 9)) (by decide) (by decide) rfl hc.lt (World.ownsRow_lit w (scells labKeyW).toArray 6 (Nat.le_refl _) (by simp [maxLen]) rfl))
  clear hc
  go_enter Tryz.func113, Tryz.ntmps113
  go_wp2_with fail
  refine HP.out.mono ?_
  rintro e w3 ⟨t, ht, rfl, hc3, hg3⟩
  have Ht3 := Lib.hid (labKeyW_size t ht)
  have Hg3 := Lib.hid (grown_trans (grown_alloc _ _ _) hg3)
  have Hc3 := Lib.hid hc3
  clear HP hg3 hc3 ht
  go_wp2_with fail
  go_ret
  exact ⟨t, Ht3.out, rfl, Hc3.out, Hg3.out⟩
def labValW : List ByteArray := [⟨#[97]⟩, ⟨#[98]⟩, ⟨#[99]⟩, ⟨#[]⟩, ⟨#[115, 115, 100]⟩, ⟨#[118, 49, 46, 50]⟩]
theorem labValW_size : ∀ x ∈ labValW, x.size ≤ 4 := by decide
set_option maxRecDepth 100000 in
theorem labVal_any (c : Nat) (A : Option Addr) (len cap : Nat) (z : Nat → Int) (w : World) (hc : Cur w c A len cap z) :
    Calls Tryz.prog 114 #[.pointer (some ⟨c, 0, none⟩)] w (GotS (fun x => x.size ≤ 4) c A len cap z w) := by
  have HP := Lib.hid (pickS_any c A len cap z w.heap.size 6 (.slice (some ⟨w.heap.size, 0, none⟩) 6 6) labValW _ (cur_alloc hc (.cells (scells labValW).toArray 9)) (by decide) (by decide) rfl hc.lt (World.ownsRow_lit w (scells labValW).toArray 6 (Nat.le_refl _) (by simp [maxLen]) rfl))
  clear hc
  go_enter Tryz.func114, Tryz.ntmps114
  go_wp2_with fail
  refine HP.out.mono ?_
  rintro e w3 ⟨t, ht, rfl, hc3, hg3⟩
  have Ht3 := Lib.hid (labValW_size t ht)
  have Hg3 := Lib.hid (grown_trans (grown_alloc _ _ _) hg3)
  have Hc3 := Lib.hid hc3
  clear HP hg3 hc3 ht
  go_wp2_with fail
  go_ret
  exact ⟨t, Ht3.out, rfl, Hc3.out, Hg3.out⟩
end Go.Proofs.YtdgedclpaplgoaaGreatDoor.draw
namespace Go.Proofs.YtdgedclpaplgoaaGreatDoor.draw
open Go.ChangeShapes Go.WideShapes Go.ChangeAt Go.RowKit
set_option linter.unusedVariables false

/-- A drawn yes or no. -/
def GotB (c : Nat) (A : Option Addr) (len cap : Nat) (z : Nat → Int) (w : World) (e : Ending) (w' : World) : Prop :=
  ∃ b : Bool, e = .returned (.bool b) ∧ Cur w' c A len cap z ∧ w.grownBy w' (some c)
theorem once_any (c : Nat) (A : Option Addr) (len cap : Nat) (z : Nat → Int) (n : Int) (w : World) (hc : Cur w c A len cap z) (h0 : 0 < n) (h1 : n ≤ 9223372036854775807) :
    Calls Tryz.prog 33 #[.pointer (some ⟨c, 0, none⟩), .int .i64 n] w (GotB c A len cap z w) := by
  have HB := Lib.hid (below_any c A len cap z n w hc h0 h1)
  clear hc
  go_enter Tryz.func33, Tryz.ntmps33
  go_wp2_with fail
  refine HB.out.mono ?_
  rintro e w1 ⟨x, hx, rfl, hc1, hg1⟩
  have Hc1 := Lib.hid hc1
  have Hg1 := Lib.hid hg1
  clear hc1 hg1 HB hx
  go_wp2_with fail
  go_ret
  exact ⟨_, rfl, Hc1.out, Hg1.out⟩
end Go.Proofs.YtdgedclpaplgoaaGreatDoor.draw
namespace Go.Proofs.YtdgedclpaplgoaaGreatDoor
open Go Go.RowKit
theorem IsRow.below {k : IntKind} {w w' : World} {a : Option Addr} {len cap : Nat} {zs : List Int} (h : IsRow k w a len cap zs) (hb : Below w.heap.size w w') : IsRow k w' a len cap zs := by
  rcases h with h | ⟨x, rfl, h1, h2, h3, h4, h5⟩
  · exact .inl h
  · exact .inr ⟨x, rfl, h1, h2, h3, fun i hi => (hb.cell (p := x.add i) (World.block_lt_of_cell? w _ (h4 i hi))).trans (h4 i hi), h5⟩
end Go.Proofs.YtdgedclpaplgoaaGreatDoor
namespace Go.Proofs.YtdgedclpaplgoaaGreatDoor.lawBig
open Go.ChangeShapes Go.WideShapes Go.ChangeAt Go.RowKit
set_option linter.unusedVariables false

theorem any (A : Option Addr) (len cap : Nat) (w : World) (h : len ≤ maxLen) :
    Calls Tryz.prog 6 #[.slice A len cap] w fun e w' => e = .returned (.bool (decide (1048576 < (len : Int)))) ∧ w = w' := by
  unfold maxLen at h
  go_enter Tryz.func6, Tryz.ntmps6
  go_wp2_with fail
  go_ret
  exact ⟨rfl, rfl⟩
end Go.Proofs.YtdgedclpaplgoaaGreatDoor.lawBig
