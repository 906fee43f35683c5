/- The cursor of the drawn laws: l01New makes one; l01Byte, l01Below, l01Once draw numbers within their bounds and write nothing but the cursor. -/
import Derived.Test.YtiibldfkefihlaaDoorRows
import Derived.Test.YtiibldfkefihlaaDoorBase
import Derived.ProofKit
import Derived.OpenShut
namespace Go.Proofs.YtiibldfkefihlaaDoor.draw
open Go.ChangeShapes Go.WideShapes Go.ChangeAt Go.RowKit
set_option linter.unusedVariables false

theorem and_bd (x : Int) (m : Nat) (hm : m < 4611686018427387904) : 0 ≤ bits .and .i64 x (m : Int) ∧ bits .and .i64 x (m : Int) ≤ (m : Int) := by
  have h1 : ((BitVec.ofInt 64 x) &&& (BitVec.ofInt 64 (m : Int))).toNat ≤ m := by
    rw [BitVec.toNat_and]
    refine Nat.le_trans Nat.and_le_right ?_
    rw [BitVec.toNat_ofInt]
    omega
  have h2 : bits .and .i64 x (m : Int) = (((BitVec.ofInt 64 x) &&& (BitVec.ofInt 64 (m : Int))).toNat : Int) := by
    show IntKind.i64.wrap (((BitVec.ofInt 64 x) &&& (BitVec.ofInt 64 (m : Int))).toNat : Int) = _
    exact IntWalk.i64_in _ (by omega)
  rw [h2]
  omega

/-- The bytes that the cursor reads: cells of a block below block c. -/
def Code (w : World) (c : Nat) (A : Option Addr) (len : Nat) (z : Nat → Int) : Prop :=
  len ≤ 1048576 ∧ (0 < len → ∃ g o, A = some ⟨g, o, none⟩ ∧ g < c ∧ ∀ j, j < len → 0 ≤ z j ∧ z j < 256 ∧ w.cell? ⟨g, o + j, none⟩ = some (.int .u8 (z j)))
/-- The cursor in block c: its bytes, its place, its mix. -/
def Cur (w : World) (c : Nat) (A : Option Addr) (len cap : Nat) (z : Nat → Int) : Prop :=
  (∃ (i : Nat) (h : Int), i ≤ len ∧ w.heap[c]? = some (.cells #[.slice A len cap, .int .i64 (i : Int), .int .i64 h] 49 (0, 0))) ∧ Code w c A len z

theorem Code.block {w w' : World} {c : Nat} {A : Option Addr} {len : Nat} {z : Nat → Int} (h : Code w c A len z) (hk : ∀ g, g < c → w'.heap[g]? = w.heap[g]?) : Code w' c A len z := by
  refine ⟨h.1, fun hl => ?_⟩
  obtain ⟨g, o, rfl, hg, hz⟩ := h.2 hl
  exact ⟨g, o, rfl, hg, fun j hj => ⟨(hz j hj).1, (hz j hj).2.1, (World.cell?_of_block (hk g hg)).trans (hz j hj).2.2⟩⟩
theorem Cur.lt {w : World} {c : Nat} {A : Option Addr} {len cap : Nat} {z : Nat → Int} (h : Cur w c A len cap z) : c < w.heap.size := by
  obtain ⟨⟨i, q, _, hc⟩, _⟩ := h
  exact (Array.getElem?_eq_some_iff.1 hc).1
/-- The cursor stands where nothing up to its own block has turned. -/
theorem Cur.below {w w' : World} {c : Nat} {A : Option Addr} {len cap : Nat} {z : Nat → Int} {B : Nat} (h : Cur w c A len cap z) (hb : Below B w w') (hB : c < B) : Cur w' c A len cap z := by
  obtain ⟨⟨i, q, h1, hc⟩, hz⟩ := h
  exact ⟨⟨i, q, h1, by rw [hb.block c hB]; exact hc⟩, hz.block fun g hg => hb.block g (by omega)⟩

/-- A number x with P x is returned; nothing but the cursor's block (and new blocks) turns. -/
def Got (P : Int → Prop) (c : Nat) (A : Option Addr) (len cap : Nat) (z : Nat → Int) (w : World) (e : Ending) (w' : World) : Prop :=
  ∃ x : Int, P x ∧ e = .returned (.int .i64 x) ∧ Cur w' c A len cap z ∧ w.grownBy w' (some c)

theorem row_cells {w : World} {c : Nat} {x0 x1 x2 : Value} {t : TypeId} (h : w.heap[c]? = some (.cells #[x0, x1, x2] t (0, 0))) :
    w.cell? ⟨c, 0, none⟩ = some x0 ∧ w.cell? ⟨c, 1, none⟩ = some x1 ∧ w.cell? ⟨c, 2, none⟩ = some x2 ∧ ∀ j, w.frozen? ⟨c, j, none⟩ = false := by
  refine ⟨?_, ?_, ?_, fun j => frozen_of_row w c j _ t h⟩
  · rw [cell_of_row w c 0 _ t (0, 0) h]; rfl
  · rw [cell_of_row w c 1 _ t (0, 0) h]; rfl
  · rw [cell_of_row w c 2 _ t (0, 0) h]; rfl

theorem grown_setCell (w : World) (c j : Nat) (v : Value) : w.grownBy (w.setCell ⟨c, j, none⟩ v) (some c) :=
  ⟨rfl, rfl, rfl, by simp [World.setCell], fun k _ hk => Below.heap_setCell _ _ _ _ (fun e => hk (by rw [e]))⟩

theorem byte_any (c : Nat) (A : Option Addr) (len cap : Nat) (z : Nat → Int) (w : World) (hc : Cur w c A len cap z) :
    Calls Tryd.prog 40 #[.pointer (some ⟨c, 0, none⟩)] w (Got (fun x => 0 ≤ x ∧ x < 256) c A len cap z w) := by
  obtain ⟨⟨i, h, hi1, hrow⟩, hcode⟩ := hc
  have hlen := hcode.1
  obtain ⟨c0, c1, c2, cf⟩ := row_cells hrow
  have f1 := cf 1
  have f2 := cf 2
  have Hrow := Lib.hid hrow
  have Hcode := Lib.hid hcode
  clear cf hrow hcode
  go_enter Tryd.func40, Tryd.ntmps40
  go_wp2_with fail
  generalize wrap64 (wrap64 (h * 6364136223846793005) + 1442695040888963407) = h1
  have hrow1 := heap_setCell_same w c 2 _ _ (.int .i64 h1) Hrow.out
  have hcode1 := Hcode.out.block (w' := w.setCell ⟨c, 2, none⟩ (.int .i64 h1)) (fun g hg => Below.heap_setCell _ _ _ _ (by show g ≠ c; omega))
  have hgr1 := grown_setCell w c 2 (.int .i64 h1)
  simp only [List.setIfInBounds_toArray, List.set_cons_succ, List.set_cons_zero] at hrow1
  generalize w.setCell ⟨c, 2, none⟩ (.int .i64 h1) = w1 at hrow1 hcode1 hgr1 ⊢
  clear c0 c1 c2 f1 f2 Hrow Hcode
  obtain ⟨c0, c1, c2, cf⟩ := row_cells hrow1
  have f1 := cf 1
  have Hrow := Lib.hid hrow1
  have Hcode := Lib.hid hcode1
  have Hgr := Lib.hid hgr1
  clear cf hrow1 hcode1 hgr1
  go_quiet (fail)
  go_wp2_with fail
  have hx := and_bd (bits .xor .i64 (h1 / 8589934592) (h1 / 35184372088832)) 255 (by decide)
  generalize bits .and .i64 (bits .xor .i64 (h1 / 8589934592) (h1 / 35184372088832)) 255 = x at hx ⊢
  generalize bits .xor .i64 (h1 / 8589934592) (h1 / 35184372088832) = y
  generalize h1 / 8589934592 = y1
  generalize h1 / 35184372088832 = y2
  have hx0 : 0 ≤ x ∧ x ≤ 255 := hx
  clear hx
  by_cases hlt : i < len
  · obtain ⟨g, o, rfl, hg, hz⟩ := Hcode.out.2 (by omega)
    obtain ⟨z0, z1, hcell⟩ := hz i hlt
    clear hz
    go_quiet (fail)
    go_wp2_with fail
    go_quiet (fail)
    go_wp2_with fail
    have hy := and_bd (x + z i) 255 (by decide)
    have hy0 : 0 ≤ bits .and .i64 (x + z i) 255 ∧ bits .and .i64 (x + z i) 255 < 256 := by
      have : bits .and .i64 (x + z i) 255 ≤ 255 := hy.2
      exact ⟨hy.1, by omega⟩
    go_ret
    refine ⟨_, hy0, rfl, ⟨⟨i + 1, h1, by omega, ?_⟩, ?_⟩, ?_⟩
    · have e := heap_setCell_same w1 c 1 _ _ (.int .i64 ((i : Int) + 1)) Hrow.out
      simp only [List.setIfInBounds_toArray, List.set_cons_succ, List.set_cons_zero] at e
      exact e
    · exact Hcode.out.block fun g hg => Below.heap_setCell w1 ⟨c, 1, none⟩ _ g (by show g ≠ c; omega)
    · exact grown_trans (grown_drewN Hgr.out _) (grown_setCell _ c 1 _)
  · go_quiet (fail)
    go_wp2_with fail
    go_ret
    exact ⟨x, ⟨by omega, by omega⟩, rfl, ⟨⟨i, h1, hi1, Hrow.out⟩, Hcode.out⟩, grown_drewN (grown_drewN Hgr.out _) _⟩

theorem u8_bd {x : Int} (h : (Lit.int .u8 x).wf = true) : 0 ≤ x ∧ x < 256 := by
  have e1 : IntKind.u8.min = 0 := rfl
  have e2 : IntKind.u8.max = 255 := rfl
  simp [Lit.wf, e1, e2] at h
  omega

set_option maxRecDepth 100000 in
/-- l01New lays the cursor in the next block. -/
theorem new_any (A : Option Addr) (len cap : Nat) (zs : List Int) (w : World) (hr : IsRow .u8 w A len cap zs) (hlen : len ≤ 1048576) :
    Calls Tryd.prog 23 #[.slice A len cap] w fun e w' => ∃ c, e = .returned (.pointer (some ⟨c, 0, none⟩)) ∧ w.heap.size ≤ c ∧ Cur w' c A len cap (fun j => zs.getD j 0) ∧ Below w.heap.size w w' := by
  have hcode : Code w w.heap.size A len (fun j => zs.getD j 0) := ⟨hlen, fun hl => by
    obtain ⟨g, o, rfl, hg, hz⟩ := hr.at_ hl
    exact ⟨g, o, rfl, hg, fun j hj => ⟨(u8_bd (hz j hj).1).1, (u8_bd (hz j hj).1).2, (hz j hj).2⟩⟩⟩
  generalize (fun j => zs.getD j 0) = z at hcode ⊢
  have Hcode := Lib.hid hcode
  clear hcode hr
  go_enter Tryd.func23, Tryd.ntmps23
  go_wp2_with fail
  go_loop [3, 4] (fun a i => ∃ (k : Nat) (h : Int), k ≤ len ∧ i = .int .i64 k ∧ a = .int .i64 h) (fun _ i => len - (intOf i).toNat)
  case atStart => exact ⟨0, _, Nat.zero_le _, rfl, rfl⟩
  case round =>
    obtain ⟨k, h, hk, rfl, rfl⟩ := hrel
    by_cases hlt : k < len
    · obtain ⟨g, o, rfl, hg, hz⟩ := Hcode.out.2 (by omega)
      obtain ⟨z0, z1, hcell⟩ := hz k hlt
      clear hz
      by_cases h4 : k < 4000
      · go_wp2_with fail
        go_round
        case rel => exact ⟨k + 1, _, by omega, by go_num, rfl⟩
        case measure => simp [intOf]; omega
      · go_wp2_with fail
        go_ret
        refine ⟨w.heap.size, rfl, Nat.le_refl _, ⟨⟨0, h, Nat.zero_le _, heap_alloc_new w _⟩, Hcode.out.block fun g hg => Below.heap_alloc w _ g hg⟩, (Below.refl _ _).alloc (Nat.le_refl _) _⟩
    · go_wp2_with fail
      go_ret
      refine ⟨w.heap.size, rfl, Nat.le_refl _, ⟨⟨0, h, Nat.zero_le _, heap_alloc_new w _⟩, Hcode.out.block fun g hg => Below.heap_alloc w _ g hg⟩, (Below.refl _ _).alloc (Nat.le_refl _) _⟩

theorem mod_bd (x n : Int) (hn : 0 < n) : 0 ≤ x % n ∧ x % n < n := ⟨Int.emod_nonneg _ (by omega), Int.emod_lt_of_pos _ hn⟩

theorem below_any (c : Nat) (A : Option Addr) (len cap : Nat) (z : Nat → Int) (n : Int) (w : World) (hc : Cur w c A len cap z) (h0 : 0 < n) (h1 : n ≤ 9223372036854775807) :
    Calls Tryd.prog 24 #[.pointer (some ⟨c, 0, none⟩), .int .i64 n] w (Got (fun x => 0 ≤ x ∧ x < n) c A len cap z w) := by
  have Hc := Lib.hid hc
  clear hc
  by_cases h2 : n ≤ 256
  · go_enter Tryd.func24, Tryd.ntmps24
    go_wp2_with fail
    refine (byte_any c A len cap z _ Hc.out).mono ?_
    rintro e w1 ⟨x, hx, rfl, hc1, hg1⟩
    have Hc1 := Lib.hid hc1
    have Hg1 := Lib.hid hg1
    have Hm := Lib.hid (mod_bd x n h0)
    clear hc1 hg1
    go_wp2_with fail
    go_ret
    exact ⟨_, Hm.out, rfl, Hc1.out, Hg1.out⟩
  · go_enter Tryd.func24, Tryd.ntmps24
    go_wp2_with fail
    refine (byte_any c A len cap z _ Hc.out).mono ?_
    rintro e w1 ⟨x, hx, rfl, hc1, hg1⟩
    go_wp2_with fail
    refine (byte_any c A len cap z _ hc1).mono ?_
    rintro e w2 ⟨y, hy, rfl, hc2, hg2⟩
    go_wp2_with fail
    refine (byte_any c A len cap z _ hc2).mono ?_
    rintro e w3 ⟨t, ht, rfl, hc3, hg3⟩
    go_wp2_with fail
    refine (byte_any c A len cap z _ hc3).mono ?_
    rintro e w4 ⟨u, hu, rfl, hc4, hg4⟩
    have Hc4 := Lib.hid hc4
    have Hg4 := Lib.hid (grown_trans hg1 (grown_trans hg2 (grown_trans hg3 hg4)))
    have Hm := Lib.hid (mod_bd (x * 16777216 + y * 65536 + t * 256 + u) n h0)
    clear hc1 hc2 hc3 hc4 hg1 hg2 hg3 hg4
    go_wp2_with fail
    go_ret
    exact ⟨_, Hm.out, rfl, Hc4.out, Hg4.out⟩
theorem cur_alloc {w : World} {c : Nat} {A : Option Addr} {len cap : Nat} {z : Nat → Int} (h : Cur w c A len cap z) (o : Obj) : Cur (w.alloc o) c A len cap z :=
  h.below ((Below.refl (c + 1) w).alloc h.lt o) (Nat.lt_succ_self c)
theorem grown_alloc (w : World) (o : Obj) (row : Option Nat) : w.grownBy (w.alloc o) row :=
  grown_of_below ((Below.refl _ _).alloc (Nat.le_refl _) o) row
theorem grown_below {a b d : World} {row : Option Nat} (h : a.grownBy b row) (k : Below a.heap.size b d) : a.grownBy d row :=
  ⟨k.os.trans h.os, k.tape.trans h.tape, k.output.trans h.output, Nat.le_trans h.size k.size, fun i hi hne => (k.block i hi).trans (h.block i hi hne)⟩
theorem kept_own' {w w' : World} {B c : Nat} {e : TypeId} {v : Value} {n : Nat} {xs : List Value} (h : w.ownsRow B e 1 v n xs) (hB : c < B) (hg : w.grownBy w' (some c)) : w'.ownsRow B e 1 v n xs :=
  h.kept hg (by
    cases hv : v.ownBlock with
    | none => exact .inl rfl
    | some k => exact .inr (fun e => by
        have := (h.lt k hv).1
        injection e with e
        omega))
end Go.Proofs.YtiibldfkefihlaaDoor.draw
