/- Merged: Draw AppAny AppE DrawF DrawX DrawPickS DrawLab DrawOnce. -/
import Derived.Test.YtpadpiibiocabaaDoorRows
import Derived.Test.YtpadpiibiocabaaDoorBase
import Derived.ProofKit
import Derived.OpenShut
import Derived.Test.YtpadpiibiocabaaDoorGGen
import Derived.Test.YtpadpiibiocabaaDoorGQ
import Derived.Deep.WholeRow
namespace Go.Proofs.YtpadpiibiocabaaDoor.draw
open Go.ChangeShapes Go.WideShapes Go.ChangeAt Go.RowKit
set_option linter.unusedVariables false

theorem and_bd (x : Int) (m : Nat) (hm : m < 4611686018427387904) : 0 ≤ bits .and .i64 x (m : Int) ∧ bits .and .i64 x (m : Int) ≤ (m : Int) := by
  have h1 : ((BitVec.ofInt 64 x) &&& (BitVec.ofInt 64 (m : Int))).toNat ≤ m := by
    rw [BitVec.toNat_and]
    refine Nat.le_trans Nat.and_le_right ?_
    rw [BitVec.toNat_ofInt]
    omega
  have h2 : bits .and .i64 x (m : Int) = (((BitVec.ofInt 64 x) &&& (BitVec.ofInt 64 (m : Int))).toNat : Int) := by
    show IntKind.i64.wrap (((BitVec.ofInt 64 x) &&& (BitVec.ofInt 64 (m : Int))).toNat : Int) = _
    exact IntWalk.i64_in _ (by omega)
  rw [h2]
  omega

/-- The bytes that the cursor reads: cells of a block below block c. -/
def Code (w : World) (c : Nat) (A : Option Addr) (len : Nat) (z : Nat → Int) : Prop :=
  len ≤ 1048576 ∧ (0 < len → ∃ g o, A = some ⟨g, o, none⟩ ∧ g < c ∧ ∀ j, j < len → 0 ≤ z j ∧ z j < 256 ∧ w.cell? ⟨g, o + j, none⟩ = some (.int .u8 (z j)))
/-- The cursor in block c: its bytes, its place, its mix. -/
def Cur (w : World) (c : Nat) (A : Option Addr) (len cap : Nat) (z : Nat → Int) : Prop :=
  (∃ (i : Nat) (h : Int), i ≤ len ∧ w.heap[c]? = some (.cells #[.slice A len cap, .int .i64 (i : Int), .int .i64 h] 97 (0, 0))) ∧ Code w c A len z

theorem Code.block {w w' : World} {c : Nat} {A : Option Addr} {len : Nat} {z : Nat → Int} (h : Code w c A len z) (hk : ∀ g, g < c → w'.heap[g]? = w.heap[g]?) : Code w' c A len z := by
  refine ⟨h.1, fun hl => ?_⟩
  obtain ⟨g, o, rfl, hg, hz⟩ := h.2 hl
  exact ⟨g, o, rfl, hg, fun j hj => ⟨(hz j hj).1, (hz j hj).2.1, (World.cell?_of_block (hk g hg)).trans (hz j hj).2.2⟩⟩
theorem Cur.lt {w : World} {c : Nat} {A : Option Addr} {len cap : Nat} {z : Nat → Int} (h : Cur w c A len cap z) : c < w.heap.size := by
  obtain ⟨⟨i, q, _, hc⟩, _⟩ := h
  exact (Array.getElem?_eq_some_iff.1 hc).1
/-- The cursor stands where nothing up to its own block has turned. -/
theorem Cur.below {w w' : World} {c : Nat} {A : Option Addr} {len cap : Nat} {z : Nat → Int} {B : Nat} (h : Cur w c A len cap z) (hb : Below B w w') (hB : c < B) : Cur w' c A len cap z := by
  obtain ⟨⟨i, q, h1, hc⟩, hz⟩ := h
  exact ⟨⟨i, q, h1, by rw [hb.block c hB]; exact hc⟩, hz.block fun g hg => hb.block g (by omega)⟩

/-- A number x with P x is returned; nothing but the cursor's block (and new blocks) turns. -/
def Got (P : Int → Prop) (c : Nat) (A : Option Addr) (len cap : Nat) (z : Nat → Int) (w : World) (e : Ending) (w' : World) : Prop :=
  ∃ x : Int, P x ∧ e = .returned (.int .i64 x) ∧ Cur w' c A len cap z ∧ w.grownBy w' (some c)

theorem row_cells {w : World} {c : Nat} {x0 x1 x2 : Value} {t : TypeId} (h : w.heap[c]? = some (.cells #[x0, x1, x2] t (0, 0))) :
    w.cell? ⟨c, 0, none⟩ = some x0 ∧ w.cell? ⟨c, 1, none⟩ = some x1 ∧ w.cell? ⟨c, 2, none⟩ = some x2 ∧ ∀ j, w.frozen? ⟨c, j, none⟩ = false := by
  refine ⟨?_, ?_, ?_, fun j => frozen_of_row w c j _ t h⟩
  · rw [cell_of_row w c 0 _ t (0, 0) h]; rfl
  · rw [cell_of_row w c 1 _ t (0, 0) h]; rfl
  · rw [cell_of_row w c 2 _ t (0, 0) h]; rfl

theorem grown_setCell (w : World) (c j : Nat) (v : Value) : w.grownBy (w.setCell ⟨c, j, none⟩ v) (some c) :=
  ⟨rfl, rfl, rfl, by simp [World.setCell], fun k _ hk => Below.heap_setCell _ _ _ _ (fun e => hk (by rw [e]))⟩

theorem byte_any (c : Nat) (A : Option Addr) (len cap : Nat) (z : Nat → Int) (w : World) (hc : Cur w c A len cap z) :
    Calls Tryd.prog 75 #[.pointer (some ⟨c, 0, none⟩)] w (Got (fun x => 0 ≤ x ∧ x < 256) c A len cap z w) := by
  obtain ⟨⟨i, h, hi1, hrow⟩, hcode⟩ := hc
  have hlen := hcode.1
  obtain ⟨c0, c1, c2, cf⟩ := row_cells hrow
  have f1 := cf 1
  have f2 := cf 2
  have Hrow := Lib.hid hrow
  have Hcode := Lib.hid hcode
  clear cf hrow hcode
  go_enter Tryd.func75, Tryd.ntmps75
  go_wp2_with fail
  generalize wrap64 (wrap64 (h * 6364136223846793005) + 1442695040888963407) = h1
  have hrow1 := heap_setCell_same w c 2 _ _ (.int .i64 h1) Hrow.out
  have hcode1 := Hcode.out.block (w' := w.setCell ⟨c, 2, none⟩ (.int .i64 h1)) (fun g hg => Below.heap_setCell _ _ _ _ (by show g ≠ c; omega))
  have hgr1 := grown_setCell w c 2 (.int .i64 h1)
  simp only [List.setIfInBounds_toArray, List.set_cons_succ, List.set_cons_zero] at hrow1
  generalize w.setCell ⟨c, 2, none⟩ (.int .i64 h1) = w1 at hrow1 hcode1 hgr1 ⊢
  clear c0 c1 c2 f1 f2 Hrow Hcode
  obtain ⟨c0, c1, c2, cf⟩ := row_cells hrow1
  have f1 := cf 1
  have Hrow := Lib.hid hrow1
  have Hcode := Lib.hid hcode1
  have Hgr := Lib.hid hgr1
  clear cf hrow1 hcode1 hgr1
  go_quiet (fail)
  go_wp2_with fail
  have hx := and_bd (bits .xor .i64 (h1 / 8589934592) (h1 / 35184372088832)) 255 (by decide)
  generalize bits .and .i64 (bits .xor .i64 (h1 / 8589934592) (h1 / 35184372088832)) 255 = x at hx ⊢
  generalize bits .xor .i64 (h1 / 8589934592) (h1 / 35184372088832) = y
  generalize h1 / 8589934592 = y1
  generalize h1 / 35184372088832 = y2
  have hx0 : 0 ≤ x ∧ x ≤ 255 := hx
  clear hx
  by_cases hlt : i < len
  · obtain ⟨g, o, rfl, hg, hz⟩ := Hcode.out.2 (by omega)
    obtain ⟨z0, z1, hcell⟩ := hz i hlt
    clear hz
    go_quiet (fail)
    go_wp2_with fail
    go_quiet (fail)
    go_wp2_with fail
    have hy := and_bd (x + z i) 255 (by decide)
    have hy0 : 0 ≤ bits .and .i64 (x + z i) 255 ∧ bits .and .i64 (x + z i) 255 < 256 := by
      have : bits .and .i64 (x + z i) 255 ≤ 255 := hy.2
      exact ⟨hy.1, by omega⟩
    go_ret
    refine ⟨_, hy0, rfl, ⟨⟨i + 1, h1, by omega, ?_⟩, ?_⟩, ?_⟩
    · have e := heap_setCell_same w1 c 1 _ _ (.int .i64 ((i : Int) + 1)) Hrow.out
      simp only [List.setIfInBounds_toArray, List.set_cons_succ, List.set_cons_zero] at e
      exact e
    · exact Hcode.out.block fun g hg => Below.heap_setCell w1 ⟨c, 1, none⟩ _ g (by show g ≠ c; omega)
    · exact grown_trans (grown_drewN Hgr.out _) (grown_setCell _ c 1 _)
  · go_quiet (fail)
    go_wp2_with fail
    go_ret
    exact ⟨x, ⟨by omega, by omega⟩, rfl, ⟨⟨i, h1, hi1, Hrow.out⟩, Hcode.out⟩, grown_drewN (grown_drewN Hgr.out _) _⟩

theorem u8_bd {x : Int} (h : (Lit.int .u8 x).wf = true) : 0 ≤ x ∧ x < 256 := by
  have e1 : IntKind.u8.min = 0 := rfl
  have e2 : IntKind.u8.max = 255 := rfl
  simp [Lit.wf, e1, e2] at h
  omega

set_option maxRecDepth 100000 in
/-- l01New lays the cursor in the next block. -/
theorem new_any (A : Option Addr) (len cap : Nat) (zs : List Int) (w : World) (hr : IsRow .u8 w A len cap zs) (hlen : len ≤ 1048576) :
    Calls Tryd.prog 45 #[.slice A len cap] w fun e w' => ∃ c, e = .returned (.pointer (some ⟨c, 0, none⟩)) ∧ w.heap.size ≤ c ∧ Cur w' c A len cap (fun j => zs.getD j 0) ∧ Below w.heap.size w w' := by
  have hcode : Code w w.heap.size A len (fun j => zs.getD j 0) := ⟨hlen, fun hl => by
    obtain ⟨g, o, rfl, hg, hz⟩ := hr.at_ hl
    exact ⟨g, o, rfl, hg, fun j hj => ⟨(u8_bd (hz j hj).1).1, (u8_bd (hz j hj).1).2, (hz j hj).2⟩⟩⟩
  generalize (fun j => zs.getD j 0) = z at hcode ⊢
  have Hcode := Lib.hid hcode
  clear hcode hr
  go_enter Tryd.func45, Tryd.ntmps45
  go_wp2_with fail
  go_loop [3, 4] (fun a i => ∃ (k : Nat) (h : Int), k ≤ len ∧ i = .int .i64 k ∧ a = .int .i64 h) (fun _ i => len - (intOf i).toNat)
  case atStart => exact ⟨0, _, Nat.zero_le _, rfl, rfl⟩
  case round =>
    obtain ⟨k, h, hk, rfl, rfl⟩ := hrel
    by_cases hlt : k < len
    · obtain ⟨g, o, rfl, hg, hz⟩ := Hcode.out.2 (by omega)
      obtain ⟨z0, z1, hcell⟩ := hz k hlt
      clear hz
      by_cases h4 : k < 4000
      · go_wp2_with fail
        go_round
        case rel => exact ⟨k + 1, _, by omega, by go_num, rfl⟩
        case measure => simp [intOf]; omega
      · go_wp2_with fail
        go_ret
        refine ⟨w.heap.size, rfl, Nat.le_refl _, ⟨⟨0, h, Nat.zero_le _, heap_alloc_new w _⟩, Hcode.out.block fun g hg => Below.heap_alloc w _ g hg⟩, (Below.refl _ _).alloc (Nat.le_refl _) _⟩
    · go_wp2_with fail
      go_ret
      refine ⟨w.heap.size, rfl, Nat.le_refl _, ⟨⟨0, h, Nat.zero_le _, heap_alloc_new w _⟩, Hcode.out.block fun g hg => Below.heap_alloc w _ g hg⟩, (Below.refl _ _).alloc (Nat.le_refl _) _⟩

theorem mod_bd (x n : Int) (hn : 0 < n) : 0 ≤ x % n ∧ x % n < n := ⟨Int.emod_nonneg _ (by omega), Int.emod_lt_of_pos _ hn⟩

theorem below_any (c : Nat) (A : Option Addr) (len cap : Nat) (z : Nat → Int) (n : Int) (w : World) (hc : Cur w c A len cap z) (h0 : 0 < n) (h1 : n ≤ 9223372036854775807) :
    Calls Tryd.prog 48 #[.pointer (some ⟨c, 0, none⟩), .int .i64 n] w (Got (fun x => 0 ≤ x ∧ x < n) c A len cap z w) := by
  have Hc := Lib.hid hc
  clear hc
  by_cases h2 : n ≤ 256
  · go_enter Tryd.func48, Tryd.ntmps48
    go_wp2_with fail
    refine (byte_any c A len cap z _ Hc.out).mono ?_
    rintro e w1 ⟨x, hx, rfl, hc1, hg1⟩
    have Hc1 := Lib.hid hc1
    have Hg1 := Lib.hid hg1
    have Hm := Lib.hid (mod_bd x n h0)
    clear hc1 hg1
    go_wp2_with fail
    go_ret
    exact ⟨_, Hm.out, rfl, Hc1.out, Hg1.out⟩
  · go_enter Tryd.func48, Tryd.ntmps48
    go_wp2_with fail
    refine (byte_any c A len cap z _ Hc.out).mono ?_
    rintro e w1 ⟨x, hx, rfl, hc1, hg1⟩
    go_wp2_with fail
    refine (byte_any c A len cap z _ hc1).mono ?_
    rintro e w2 ⟨y, hy, rfl, hc2, hg2⟩
    go_wp2_with fail
    refine (byte_any c A len cap z _ hc2).mono ?_
    rintro e w3 ⟨t, ht, rfl, hc3, hg3⟩
    go_wp2_with fail
    refine (byte_any c A len cap z _ hc3).mono ?_
    rintro e w4 ⟨u, hu, rfl, hc4, hg4⟩
    have Hc4 := Lib.hid hc4
    have Hg4 := Lib.hid (grown_trans hg1 (grown_trans hg2 (grown_trans hg3 hg4)))
    have Hm := Lib.hid (mod_bd (x * 16777216 + y * 65536 + t * 256 + u) n h0)
    clear hc1 hc2 hc3 hc4 hg1 hg2 hg3 hg4
    go_wp2_with fail
    go_ret
    exact ⟨_, Hm.out, rfl, Hc4.out, Hg4.out⟩
theorem cur_alloc {w : World} {c : Nat} {A : Option Addr} {len cap : Nat} {z : Nat → Int} (h : Cur w c A len cap z) (o : Obj) : Cur (w.alloc o) c A len cap z :=
  h.below ((Below.refl (c + 1) w).alloc h.lt o) (Nat.lt_succ_self c)
theorem grown_alloc (w : World) (o : Obj) (row : Option Nat) : w.grownBy (w.alloc o) row :=
  grown_of_below ((Below.refl _ _).alloc (Nat.le_refl _) o) row
theorem grown_below {a b d : World} {row : Option Nat} (h : a.grownBy b row) (k : Below a.heap.size b d) : a.grownBy d row :=
  ⟨k.os.trans h.os, k.tape.trans h.tape, k.output.trans h.output, Nat.le_trans h.size k.size, fun i hi hne => (k.block i hi).trans (h.block i hi hne)⟩
theorem kept_own' {w w' : World} {B c : Nat} {e : TypeId} {v : Value} {n : Nat} {xs : List Value} (h : w.ownsRow B e 1 v n xs) (hB : c < B) (hg : w.grownBy w' (some c)) : w'.ownsRow B e 1 v n xs :=
  h.kept hg (by
    cases hv : v.ownBlock with
    | none => exact .inl rfl
    | some k => exact .inr (fun e => by
        have := (h.lt k hv).1
        injection e with e
        omega))
end Go.Proofs.YtpadpiibiocabaaDoor.draw
namespace Go.Proofs.YtpadpiibiocabaaDoor
open Go Go.RowKit
set_option linter.unusedVariables false

/-- A row in a new block, behind a drawn number. -/
theorem own_new {w : World} {base size n cap : Nat} {e : TypeId} {z : Array Value} {xs news : List Value} (h : (xs ++ news).length = n * size) (hz : z.size = size) (hb : base ≤ w.heap.size) (h1 : n ≤ cap) (h2 : cap ≤ maxLen) :
    (w.drew.alloc (.cells (xs.toArray ++ news.toArray ++ Builtin.zeroCells z (cap - n)) e)).ownsRow base e size (.slice (some ⟨w.heap.size, 0, none⟩) n cap) n (xs ++ news) := by
  refine ⟨h, .inr ⟨w.heap.size, cap, _, rfl, hb, heap_alloc_new w.drew _, h1, h2, ?_, ?_⟩⟩
  · have e1 : (xs.toArray ++ news.toArray).size = n * size := by rw [← h]; simp
    rw [Array.size_append, e1, size_zeroCells, hz, ← Nat.add_mul]
    congr 1
    omega
  · rw [Array.toList_append, Array.toList_append]
    show (((xs ++ news) ++ _).take (n * size)) = _
    rw [← h]
    exact List.take_left
theorem run_append_anyE {P : Program} (w : World) (base : Nat) (t ty e e0 : TypeId) (i : TypeInfo) (z : Value) (size bytes : Nat) (ht : P.underlying t = some (.slice e)) (hi : P.info? e = some i) (hz : i.zero = some z)
    (hsize : i.size = size) (hby : i.bytes = bytes) (hzs : z.cells.size = size) (hsz : 0 < size) (v : Value) (n : Nat) (xs : List Value) (hown : w.ownsRow base e0 size v n xs)
    (a : Addr) (m c : Nat) (news : List Value) (hl : news.length = m * size) (hnews : ∀ j u, news[j]? = some u → w.cell? (a.add j) = some u) (h1 : ∀ u ∈ news, u.oneCell' = true)
    (h63 : n + m ≤ maxLen) (hbytes : (n + m) * bytes ≤ 140737488355328) (hbase : base ≤ w.heap.size) :
    ∃ v' w' e1, (Builtin.append_ #[t, t] ty #[v, .slice (some a) m c]).run P w = .ok v' w' ∧ w'.ownsRow base e1 size v' (n + m) (xs ++ news) ∧ w.grownBy w' v.ownBlock ∧ (v'.ownBlock = v.ownBlock ∨ v'.ownBlock = some w.heap.size) := by
  have hsmall : n + m ≤ 9223372036854775807 := by simp only [maxLen] at h63; omega
  rcases hown.2 with ⟨rfl, rfl⟩ | ⟨g, cap, cur, rfl, hbg, hg, hnc, hcm, hcs, htake⟩
  · obtain ⟨v', w', r0, r1, r2, _, r4⟩ := run_append_own_at (P := P) w base t ty e i z size bytes ht hi hz hsize hby hzs hsz _ 0 xs ⟨hown.1, .inl ⟨rfl, rfl⟩⟩ a m c news hl hnews h1 h63 hbytes hbase
    exact ⟨v', w', e, r0, r1, r2, r4⟩
  · subst hsize
    subst hby
    have hlen : (xs ++ news).length = (n + m) * i.size := by rw [List.length_append, hown.1, hl, Nat.add_mul]
    by_cases hroom : n + m ≤ cap
    · have hfit : n * i.size + news.length ≤ cur.size := by rw [hl, hcs, ← Nat.add_mul]; exact Nat.mul_le_mul_right _ hroom
      have hr : (Builtin.append_ #[t, t] ty #[.slice (some ⟨g, 0, none⟩) n cap, .slice (some a) m c]).run P w =
          .ok (.slice (some ⟨g, 0, none⟩) (n + m) cap) (w.setRow g (cur.toList.take (n * i.size) ++ news ++ cur.toList.drop (n * i.size + news.length)).toArray) := by
        have hf := run_firstCells_some (P := P) w i.size m a m c news hl hnews
        have hst := run_storeCells_at P g (n * i.size) e0 news 0 cur w hg (by simpa using hfit) h1
        simp only [Nat.add_zero] at hst
        simp [Builtin.append_, run_underlying ht, sizeOf, typeInfo, hi, Builtin.lenOf, hroom, hf, Addr.add_lit, hst]
      refine ⟨_, _, e0, hr, ⟨hlen, .inr ⟨g, cap, _, rfl, hbg, setRow_heap w g cur _ e0 _ hg, hroom, hcm, ?_, ?_⟩⟩, ⟨rfl, rfl, rfl, by simp, fun k _ hk => setRow_other w g k _ (fun h => hk (by simp [Value.ownBlock, h]))⟩, .inl rfl⟩
      · simp only [List.size_toArray, List.length_append, List.length_take, List.length_drop, Array.length_toList]
        omega
      · rw [htake, ← hlen]
        exact List.take_left
    · have holds : ∀ j u, xs[j]? = some u → w.cell? ((⟨g, 0, none⟩ : Addr).add j) = some u := hown.cells (g := g) rfl
      have hr := run_append_grow (P := P) w t ty e i z ht hi hz ⟨g, 0, none⟩ n cap xs hown.1 holds a m c news hl hnews (by omega) (by omega) (growslice_fits (by omega) hbytes)
      exact ⟨_, _, e, hr, own_new hlen hzs hbase (grownCap_ge w (n + m) cap e) (grownCap_le_maxLen w (n + m) cap e h63), ⟨rfl, rfl, rfl, by simp, fun k hk _ => Below.heap_alloc w.drew _ k hk⟩, .inr rfl⟩
/-- As one step of a region that draws its order. -/
theorem step_append_anyE {P : Program} {ops : Array Oper} {o : Oper} {a : Act} {w : World} {K : Act → World → Prop} {Q : Exit → Act → World → Prop} {E : Prop}
    (hg : o.guard = none) (s x : Operand) (t : TypeId) (hop : o.op = Op.call { callee := Callee.builtin Builtin.append, args := #[s, x], argTypes := #[t, t] })
    (B : Nat) (e e0 : TypeId) (i : TypeInfo) (z : Value) (size bytes : Nat) (h1 : P.underlying t = some (.slice e)) (h2 : P.info? e = some i) (h3 : i.zero = some z) (h4 : i.size = size) (h5 : i.bytes = bytes) (h6 : z.cells.size = size) (h7 : 0 < size)
    (v : Value) (n : Nat) (xs : List Value) (hs : a.eval s = v) (hown : w.ownsRow B e0 size v n xs)
    (ad : Addr) (m c : Nat) (news : List Value) (hx : a.eval x = .slice (some ad) m c) (hn : news.length = m * size) (hc : ∀ j u, news[j]? = some u → w.cell? (ad.add j) = some u) (h1c : ∀ u ∈ news, u.oneCell' = true)
    (b1 : n + m ≤ maxLen) (b2 : (n + m) * bytes ≤ 140737488355328) (b3 : B ≤ w.heap.size)
    (hK : ∀ v' w' e1, w'.ownsRow B e1 size v' (n + m) (xs ++ news) → w.grownBy w' v.ownBlock → (v'.ownBlock = v.ownBlock ∨ v'.ownBlock = some w.heap.size) → K (a.put o.dst v') w') :
    if Region.wanted o (yielded ops a.tmps) = true then Oper.wp P o a w K Q else E := by
  have hw : Region.wanted o (yielded ops a.tmps) = true := by simp [Region.wanted, hg]
  rw [if_pos hw]
  obtain ⟨v', w', e1, hrun, r1, r2, r3⟩ := run_append_anyE (P := P) w B t o.type e e0 i z size bytes h1 h2 h3 h4 h5 h6 h7 v n xs hown ad m c news hn hc h1c b1 b2 b3
  unfold Oper.wp
  simp [execOp, hop, resolve, invoke, builtin, hs, hx, hrun, Result.andThen]
  exact hK v' w' e1 r1 r2 r3
end Go.Proofs.YtpadpiibiocabaaDoor
namespace Go.Proofs.YtpadpiibiocabaaDoor
open Go Go.RowKit
/-- append onto a row of the call's own, whatever type its block bears. -/
theorem wpList_append_anyE {P : Program} {w : World} {ops : Array Oper} {rest : List Oper} {o : Oper} {a : Act} {Q : Exit → Act → World → Prop} (hgd : o.guard = none) (s x : Operand) (t : TypeId)
    (ho : o.op = .call { callee := .builtin .append, args := #[s, x], argTypes := #[t, t] })
    (base : Nat) (e e0 : TypeId) (i : TypeInfo) (z : Value) (size bytes : Nat) (ht : P.underlying t = some (.slice e)) (hi : P.info? e = some i) (hz : i.zero = some z)
    (hsize : i.size = size) (hby : i.bytes = bytes) (hzs : z.cells.size = size) (hsz : 0 < size)
    (v : Value) (n : Nat) (xs : List Value) (hs : a.eval s = v) (hown : w.ownsRow base e0 size v n xs)
    (g m c : Nat) (news : List Value) (hx : a.eval x = .slice (some ⟨g, 0, none⟩) m c) (hr : RdK w (some ⟨g, 0, none⟩) m size news) (hm : 0 < m) (h1 : ∀ u ∈ news, u.oneCell' = true)
    (h63 : n + m ≤ maxLen) (hbytes : (n + m) * bytes ≤ 140737488355328) (hbase : base ≤ w.heap.size)
    (h : ∀ v' w' e1, w'.ownsRow base e1 size v' (n + m) (xs ++ news) → w.grownBy w' v.ownBlock → (v'.ownBlock = v.ownBlock ∨ v'.ownBlock = some w.heap.size) → wpList P ops Q rest (a.put o.dst v') w') :
    wpList P ops Q (o :: rest) a w := by
  refine wpList_plain hgd fun K hK => ?_
  obtain ⟨g', o', hA, _, hc⟩ := hr.2 hm
  injection hA with hA
  injection hA with e1 e2
  subst e1 e2
  obtain ⟨v', w', e1, hr', h2, h3, h5⟩ := run_append_anyE (P := P) w base t o.type e e0 i z size bytes ht hi hz hsize hby hzs hsz v n xs hown ⟨g, 0, none⟩ m c news hr.1 (fun j u hu => by rw [Addr.add_lit]; exact hc j u hu) h1 h63 hbytes hbase
  unfold Oper.wp execOp
  simp only [ho, resolve, invoke, builtin, Sem.run_bind, Sem.run_pure, Result.andThen_ok, List.map_toArray, List.map_cons, List.map_nil, hs, hx, hr']
  exact hK _ _ (h v' w' e1 h2 h3 h5)
end Go.Proofs.YtpadpiibiocabaaDoor
namespace Go.Proofs.YtpadpiibiocabaaDoor.draw
open Go Go.RowKit
set_option linter.unusedVariables false
section
variable {α : Type} {enc : α → List Value} {row : α → List C} {k : Nat}
/-- A list of the call's own is handed back; nothing but the cursor's block (and new blocks) turns. -/
def GotF (k : Nat) (row : α → List C) (P : List α → Prop) (c : Nat) (A : Option Addr) (len cap : Nat) (z : Nat → Int) (w : World) (e : Ending) (w' : World) : Prop :=
  ∃ (l : List α) (v : Value) (f : Nat) (F : List Nat), P l ∧ e = .returned v ∧ Own w' w.heap.size (f + 1) v (.sl k l.length (l.flatMap row)) F ∧ F.Nodup ∧ Cur w' c A len cap z ∧ w.grownBy w' (some c)
/-- Own blocks are kept where only the cursor's block turns. -/
theorem own_curF {w w' : World} {c B f : Nat} {v : Value} {d : C} {F : List Nat} (h : Own w B f v d F) (hB : c < B) (hg : w.grownBy w' (some c)) : Own w' B f v d F :=
  h.kept fun x hx => hg.block x (h.range x hx).2 (fun e => by have := (h.range x hx).1; injection e with e; omega)
theorem row_curF {w w' : World} {B c k : Nat} {e : TypeId} {v : Value} {n : Nat} {xs : List Value} (h : w.ownsRow B e k v n xs) (hB : c < B) (hg : w.grownBy w' (some c)) : w'.ownsRow B e k v n xs :=
  h.kept hg (by
    cases hv : v.ownBlock with
    | none => exact .inl rfl
    | some q => exact .inr (fun e => by
        have := (h.lt q hv).1
        injection e with e
        omega))
/-- A struct just laid reads as a slice of one. -/
theorem rdk_at {w : World} {g : Nat} {e : TypeId} {xs : List Value} (h : w.heap[g]? = some (.cells xs.toArray e (0, 0))) (hx : xs.length = k) : RdK w (some ⟨g, 0, none⟩) 1 k xs := by
  refine ⟨by omega, fun _ => ⟨g, 0, rfl, heap_lt h, fun j u hu => ?_⟩⟩
  rw [Nat.zero_add, cell_of_row _ _ _ _ _ _ h]
  simpa using hu
theorem rdk_lay (w : World) (e : TypeId) (xs : List Value) (hx : xs.length = k) : RdK (w.alloc (.cells xs.toArray e)) (some ⟨w.heap.size, 0, none⟩) 1 k xs := rdk_at (heap_alloc_new w _) hx
/-- An owned list is a row of some element type. -/
theorem own_rowF (hr : ∀ x, (row x).length = k) (he : ∀ x, (enc x).length = k) (hfl : ∀ (w : World) (f : Nat) (x : α) (j : Nat) (d : C) (u : Value), (row x)[j]? = some d → Lies w f u d → (enc x)[j]? = some u)
    {w : World} {B f : Nat} {v : Value} {l : List α} {F : List Nat} (t0 : TypeId) (h : Own w B (f + 1) v (.sl k l.length (l.flatMap row)) F) : ∃ e, w.ownsRow B e k v l.length (l.flatMap enc) := by
  obtain ⟨hl, ⟨rfl, hn, rfl⟩ | ⟨g, c, cur, e, Fs, rfl, h1, h2, h3, h4, hz, hF, h5, h6⟩⟩ := h
  · have : l = [] := List.eq_nil_of_length_eq_zero hn
    subst this
    exact ⟨t0, World.ownsRow_nil _ _ _ _⟩
  · refine ⟨e, flat_length' he l, .inr ⟨g, c, cur, rfl, h3, h4, h1, h2, hz, ?_⟩⟩
    refine List.ext_getElem? fun m => ?_
    by_cases hm : m < l.length * k
    · rw [List.getElem?_take_of_lt hm]
      have hd : m < (l.flatMap row).length := by rw [hl]; exact hm
      have hcs : m < cur.size := by rw [hz]; exact Nat.lt_of_lt_of_le hm (Nat.mul_le_mul_right _ h1)
      have hfs : m < Fs.length := by rw [h5]; exact hd
      obtain ⟨u, hu, ho⟩ := h6 m _ _ (List.getElem?_eq_getElem hd) (List.getElem?_eq_getElem hfs)
      have k0 : 0 < k := by rcases Nat.eq_zero_or_pos k with h | h; · subst h; simp at hm
                            · exact h
      have hi : m / k < l.length := (Nat.div_lt_iff_lt_mul k0).2 hm
      have e := Nat.div_add_mod' m k
      have r1 := flat_get' hr l (m / k) (m % k) _ (List.getElem?_eq_getElem hi) (Nat.mod_lt _ k0)
      have r2 := flat_get' he l (m / k) (m % k) _ (List.getElem?_eq_getElem hi) (Nat.mod_lt _ k0)
      rw [e] at r1 r2
      rw [List.getElem?_eq_getElem hd] at r1
      rw [r2, hfl _ _ _ _ _ _ r1.symm ho.lies, Array.getElem?_toList]
      exact hu
    · rw [List.getElem?_eq_none (by rw [List.length_take]; omega), List.getElem?_eq_none (by rw [flat_length' he]; omega)]
/-- What stands beside the cursor while a list grows. -/
structure StF (k : Nat) (enc : α → List Value) (w : World) (c : Nat) (A : Option Addr) (len cap : Nat) (z : Nat → Int) (e0 : TypeId) (v : Value) (l : List α) (a : World) : Prop where
  cur : Cur a c A len cap z
  grown : w.grownBy a (some c)
  row : a.ownsRow w.heap.size e0 k v l.length (l.flatMap enc)
variable {w a b : World} {c : Nat} {A : Option Addr} {len cap : Nat} {z : Nat → Int} {e0 e1 : TypeId} {v : Value} {l : List α}
theorem StF.turn (h : StF k enc w c A len cap z e0 v l a) (hcw : c < w.heap.size) (hc : Cur b c A len cap z) (hg : a.grownBy b (some c)) : StF k enc w c A len cap z e0 v l b :=
  ⟨hc, grown_trans h.grown hg, row_curF h.row hcw hg⟩
theorem StF.below (h : StF k enc w c A len cap z e0 v l a) (hcw : c < w.heap.size) (hb : Below a.heap.size a b) : StF k enc w c A len cap z e0 v l b :=
  ⟨h.cur.below (hb.mono h.grown.size) hcw, draw.grown_below h.grown (hb.mono h.grown.size), own_below' h.row hb⟩
theorem StF.alloc (h : StF k enc w c A len cap z e0 v l a) (hcw : c < w.heap.size) (o : Obj) : StF k enc w c A len cap z e0 v l (a.alloc o) :=
  h.below hcw ((Below.refl _ _).alloc (Nat.le_refl _) o)
theorem StF.more {v7 : Value} {x : α} {o : Obj} (h : StF k enc w c A len cap z e0 v l a) (hcw : c < w.heap.size)
    (hown : b.ownsRow w.heap.size e1 k v7 (l.length + 1) (l.flatMap enc ++ enc x)) (hg : (a.alloc o).grownBy b v.ownBlock) : StF k enc w c A len cap z e1 v7 (l ++ [x]) b := by
  have hb7 : Below w.heap.size a b := Below.grown ((Below.refl w.heap.size a).alloc h.grown.size o) hg (by have := h.grown.size; simp; omega) (fun b hb => (h.row.lt b hb).1)
  exact ⟨h.cur.below hb7 hcw, draw.grown_below h.grown hb7, by rw [List.flatMap_append, List.length_append, List.flatMap_cons, List.flatMap_nil, List.append_nil]; exact hown⟩
theorem StF.got {Wf : α → Prop} {P : List α → Prop} (hr : ∀ x, (row x).length = k) (hown : ∀ x : α, Wf x → OwnS a w.heap.size 1 (enc x) (row x) []) (h : StF k enc w c A len cap z e0 v l a) (hP : P l) (ht : ∀ x ∈ l, Wf x) : GotF k row P c A len cap z w (.returned v) a := by
  obtain ⟨F, ho, hn, _⟩ := flt.own_vals hr hown h.row ht
  exact ⟨l, v, 1, F, hP, rfl, ho, hn, h.cur, h.grown⟩
theorem StF.of_got {f : Nat} {F : List Nat} (hr : ∀ x, (row x).length = k) (he : ∀ x, (enc x).length = k) (hfl : ∀ (w : World) (f : Nat) (x : α) (j : Nat) (d : C) (u : Value), (row x)[j]? = some d → Lies w f u d → (enc x)[j]? = some u)
    (t0 : TypeId) (ho : Own a w.heap.size (f + 1) v (.sl k l.length (l.flatMap row)) F) (hc : Cur a c A len cap z) (hg : w.grownBy a (some c)) : ∃ e, StF k enc w c A len cap z e v l a := by
  obtain ⟨e, h⟩ := own_rowF hr he hfl t0 ho
  exact ⟨e, hc, hg, h⟩
end
end Go.Proofs.YtpadpiibiocabaaDoor.draw
namespace Go.Proofs.YtpadpiibiocabaaDoor.draw
open Go Go.RowKit
set_option linter.unusedVariables false

theorem wf_intX {n : Int} (h1 : -1 ≤ n) (h2 : n ≤ 6) : (Lit.int .i64 n).wf = true := by
  have : n = -1 ∨ n = 0 ∨ n = 1 ∨ n = 2 ∨ n = 3 ∨ n = 4 ∨ n = 5 ∨ n = 6 := by omega
  rcases this with rfl | rfl | rfl | rfl | rfl | rfl | rfl | rfl <;> decide
theorem RowE.cur {e : TypeId} {a b : World} {c g : Nat} {us : List Value} (h : RowE e a g us) (hg : a.grownBy b (some c)) (hne : c ≠ g) : RowE e b g us :=
  (hg.block g (heap_lt h) (fun e => hne (by injection e with e; exact e.symm))).trans h
theorem RowE.frozen {e : TypeId} {w : World} {g : Nat} {us : List Value} (h : RowE e w g us) (j : Nat) : w.frozen? ⟨g, j, none⟩ = false := by
  unfold RowE at h
  simp [World.frozen?, h]
theorem RowE.put {e : TypeId} {w : World} {g : Nat} {us : List Value} (h : RowE e w g us) (j : Nat) (v : Value) : RowE e (w.setCell ⟨g, j, none⟩ v) g (us.set j v) := by
  have := heap_setCell_same w g j us.toArray e v h
  unfold RowE
  rw [this]
  simp
theorem RowE.other {e : TypeId} {w : World} {g x j : Nat} {v : Value} {us : List Value} (h : RowE e w x us) (hx : x ≠ g) : RowE e (w.setCell ⟨g, j, none⟩ v) x us :=
  (Below.heap_setCell w ⟨g, j, none⟩ v x hx).trans h
section
variable {α : Type}
/-- A drawn struct is handed back. -/
def GotX (enc : α → List Value) (P : α → Prop) (c : Nat) (A : Option Addr) (len cap : Nat) (z : Nat → Int) (w : World) (e : Ending) (w' : World) : Prop :=
  ∃ x : α, P x ∧ e = .returned (.agg (enc x).toArray) ∧ Cur w' c A len cap z ∧ w.grownBy w' (some c)
/-- The result's box stands beside the cursor. -/
structure Bx0 (w : World) (c : Nat) (A : Option Addr) (len cap : Nat) (z : Nat → Int) (e : TypeId) (zs : List Value) (a : World) : Prop where
  cur : Cur a c A len cap z
  grown : w.grownBy a (some c)
  zero : RowE e a w.heap.size zs
/-- And a box of the call's own. -/
structure Bx1 (w : World) (c : Nat) (A : Option Addr) (len cap : Nat) (z : Nat → Int) (e : TypeId) (zs : List Value) (b : Nat) (us : List Value) (a : World) : Prop where
  cur : Cur a c A len cap z
  grown : w.grownBy a (some c)
  zero : RowE e a w.heap.size zs
  mine : RowE e a b us
variable {w a a' : World} {c : Nat} {A : Option Addr} {len cap : Nat} {z : Nat → Int} {e : TypeId} {zs us : List Value} {b : Nat}
theorem Bx0.new (hc : Cur w c A len cap z) : Bx0 w c A len cap z e zs (w.alloc (.cells zs.toArray e)) :=
  ⟨cur_alloc hc _, grown_alloc _ _ _, RowE.new _ _ _⟩
theorem Bx0.turn (h : Bx0 w c A len cap z e zs a) (hcw : c < w.heap.size) (hc : Cur a' c A len cap z) (hg : a.grownBy a' (some c)) : Bx0 w c A len cap z e zs a' :=
  ⟨hc, grown_trans h.grown hg, RowE.cur h.zero hg (by omega)⟩
theorem Bx0.below (h : Bx0 w c A len cap z e zs a) (hcw : c < w.heap.size) (hb : Below a.heap.size a a') : Bx0 w c A len cap z e zs a' :=
  ⟨h.cur.below (hb.mono h.grown.size) hcw, draw.grown_below h.grown (hb.mono h.grown.size), h.zero.below hb⟩
theorem Bx0.box (h : Bx0 w c A len cap z e zs a) (hcw : c < w.heap.size) : Bx1 w c A len cap z e zs a.heap.size us (a.alloc (.cells us.toArray e)) :=
  let h' := h.below hcw ((Below.refl _ _).alloc (Nat.le_refl _) (.cells us.toArray e))
  ⟨h'.cur, h'.grown, h'.zero, RowE.new _ _ _⟩
theorem Bx0.lt (h : Bx0 w c A len cap z e zs a) : w.heap.size < a.heap.size := heap_lt h.zero
theorem Bx1.turn (h : Bx1 w c A len cap z e zs b us a) (hcw : c < w.heap.size) (hb : w.heap.size < b) (hc : Cur a' c A len cap z) (hg : a.grownBy a' (some c)) : Bx1 w c A len cap z e zs b us a' :=
  ⟨hc, grown_trans h.grown hg, RowE.cur h.zero hg (by omega), RowE.cur h.mine hg (by omega)⟩
theorem Bx1.put (h : Bx1 w c A len cap z e zs b us a) (hcw : c < w.heap.size) (hb : w.heap.size < b) (j : Nat) (v : Value) : Bx1 w c A len cap z e zs b (us.set j v) (a.setCell ⟨b, j, none⟩ v) :=
  have hB : Below b a (a.setCell ⟨b, j, none⟩ v) := (Below.refl b a).setCell (Nat.le_refl _) v
  ⟨h.cur.below hB (by omega), draw.grown_below h.grown (hB.mono (by omega)), RowE.other h.zero (by omega), RowE.put h.mine j v⟩
/-- The result is laid down in its box. -/
theorem Bx0.done {enc : α → List Value} {P : α → Prop} {x : α} (h : Bx0 w c A len cap z e zs a) (hcw : c < w.heap.size) (hP : P x) : GotX enc P c A len cap z w (.returned (.agg (enc x).toArray)) (a.setRow w.heap.size (enc x).toArray) :=
  have hb2 : Below w.heap.size a (a.setRow w.heap.size (enc x).toArray) := setRow_below (Below.refl _ _) (Nat.le_refl _) _
  ⟨x, hP, rfl, h.cur.below hb2 hcw, draw.grown_below h.grown hb2⟩
theorem Bx1.done {enc : α → List Value} {P : α → Prop} {x : α} (h : Bx1 w c A len cap z e zs b us a) (hcw : c < w.heap.size) (hP : P x) : GotX enc P c A len cap z w (.returned (.agg (enc x).toArray)) (a.setRow w.heap.size (enc x).toArray) :=
  Bx0.done (e := e) (zs := zs) ⟨h.cur, h.grown, h.zero⟩ hcw hP
end
end Go.Proofs.YtpadpiibiocabaaDoor.draw
namespace Go.Proofs.YtpadpiibiocabaaDoor.draw
open Go.ChangeShapes Go.WideShapes Go.ChangeAt Go.RowKit
set_option linter.unusedVariables false

/-- A string x with P x is returned; nothing but the cursor's block (and new blocks) turns. -/
def GotS (P : ByteArray → Prop) (c : Nat) (A : Option Addr) (len cap : Nat) (z : Nat → Int) (w : World) (e : Ending) (w' : World) : Prop :=
  ∃ x : ByteArray, P x ∧ e = .returned (.string x) ∧ Cur w' c A len cap z ∧ w.grownBy w' (some c)
theorem kept_own {w w' : World} {B c : Nat} {e : TypeId} {v : Value} {n : Nat} {xs : List Value} (h : w.ownsRow B e 1 v n xs) (hB : c < B) (hg : w.grownBy w' (some c)) : w'.ownsRow B e 1 v n xs :=
  h.kept hg (by
    cases hv : v.ownBlock with
    | none => exact .inl rfl
    | some k => exact .inr (fun e => by
        have := (h.lt k hv).1
        injection e with e
        omega))
/-- A string of the list is picked. -/
theorem pickS_any (c : Nat) (A : Option Addr) (len cap : Nat) (z : Nat → Int) (B n : Nat) (v : Value) (l : List ByteArray) (w : World) (hc : Cur w c A len cap z) (h0 : 0 < n) (h1 : n ≤ 1000) (hl : l.length = n)
    (hB : c < B) (hown : w.ownsRow B 9 1 v n (scells l)) :
    Calls Tryd.prog 99 #[.pointer (some ⟨c, 0, none⟩), v] w (GotS (fun x => x ∈ l) c A len cap z w) := by
  have HB := Lib.hid (below_any c A len cap z n w hc (by omega) (by omega))
  have Hkept := Lib.hid (fun w' hg => kept_own (w' := w') hown hB hg)
  rcases hown.2 with ⟨rfl, hn⟩ | ⟨g, cp, cur, rfl, hb, hg, hnc, hcm, hcs, htake⟩
  · omega
  clear hb hg hnc hcm hcs htake hc hown
  have Hl := Lib.hid hl
  clear hl
  go_enter Tryd.func99, Tryd.ntmps99
  go_wp2_with fail
  refine HB.out.mono ?_
  rintro e w1 ⟨x, hx, rfl, hc1, hg1⟩
  obtain ⟨j, rfl⟩ := Int.eq_ofNat_of_zero_le hx.1
  have hj : j < n := by omega
  have hjl : j < l.length := by have := Hl.out; omega
  have hcell : w1.cell? ⟨g, j, none⟩ = some (.string (l.getD j ⟨#[]⟩)) := by
    have h1 := (Hkept.out w1 hg1).cellAt j (by omega)
    rw [h1, scells_get l j hjl]
    simp [List.getD, hjl]
  have hmem : Hid (l.getD j ⟨#[]⟩ ∈ l) := by
    unfold Hid
    rw [List.getD_eq_getElem?_getD, List.getElem?_eq_getElem hjl]
    exact List.getElem_mem hjl
  have Hc1 := Lib.hid hc1
  have Hg1 := Lib.hid hg1
  clear hc1 hg1 hjl HB Hkept
  generalize l.getD j ⟨#[]⟩ = x at hcell hmem
  go_wp2_with fail
  go_ret
  exact ⟨x, hmem.out, rfl, Hc1.out, Hg1.out⟩

end Go.Proofs.YtpadpiibiocabaaDoor.draw
namespace Go.Proofs.YtpadpiibiocabaaDoor.draw
open Go.ChangeShapes Go.WideShapes Go.ChangeAt Go.RowKit
set_option linter.unusedVariables false

def labKeyW : List ByteArray := [⟨#[122, 111, 110, 101]⟩, ⟨#[100, 105, 115, 107]⟩, ⟨#[97, 112, 112]⟩, ⟨#[116, 105, 101, 114]⟩, ⟨#[97, 46, 98, 47, 99]⟩, ⟨#[90, 111, 110, 101]⟩]
theorem labKeyW_size : ∀ x ∈ labKeyW, x.size ≤ 5 := by decide
set_option maxRecDepth 100000 in
theorem labKey_any (c : Nat) (A : Option Addr) (len cap : Nat) (z : Nat → Int) (w : World) (hc : Cur w c A len cap z) :
    Calls Tryd.prog 86 #[.pointer (some ⟨c, 0, none⟩)] w (GotS (fun x => x.size ≤ 5) c A len cap z w) := by
  have HP := Lib.hid (pickS_any c A len cap z w.heap.size 6 (.slice (some ⟨w.heap.size, 0, none⟩) 6 6) labKeyW _ (cur_alloc hc (.cells (scells labKeyW).toArray 9)) (by decide) (by decide) rfl hc.lt (World.ownsRow_lit w (scells labKeyW).toArray 6 (Nat.le_refl _) (by simp [maxLen]) rfl))
  clear hc
  go_enter Tryd.func86, Tryd.ntmps86
  go_wp2_with fail
  refine HP.out.mono ?_
  rintro e w3 ⟨t, ht, rfl, hc3, hg3⟩
  have Ht3 := Lib.hid (labKeyW_size t ht)
  have Hg3 := Lib.hid (grown_trans (grown_alloc _ _ _) hg3)
  have Hc3 := Lib.hid hc3
  clear HP hg3 hc3 ht
  go_wp2_with fail
  go_ret
  exact ⟨t, Ht3.out, rfl, Hc3.out, Hg3.out⟩
def labValW : List ByteArray := [⟨#[97]⟩, ⟨#[98]⟩, ⟨#[99]⟩, ⟨#[]⟩, ⟨#[115, 115, 100]⟩, ⟨#[118, 49, 46, 50]⟩]
theorem labValW_size : ∀ x ∈ labValW, x.size ≤ 4 := by decide
set_option maxRecDepth 100000 in
theorem labVal_any (c : Nat) (A : Option Addr) (len cap : Nat) (z : Nat → Int) (w : World) (hc : Cur w c A len cap z) :
    Calls Tryd.prog 87 #[.pointer (some ⟨c, 0, none⟩)] w (GotS (fun x => x.size ≤ 4) c A len cap z w) := by
  have HP := Lib.hid (pickS_any c A len cap z w.heap.size 6 (.slice (some ⟨w.heap.size, 0, none⟩) 6 6) labValW _ (cur_alloc hc (.cells (scells labValW).toArray 9)) (by decide) (by decide) rfl hc.lt (World.ownsRow_lit w (scells labValW).toArray 6 (Nat.le_refl _) (by simp [maxLen]) rfl))
  clear hc
  go_enter Tryd.func87, Tryd.ntmps87
  go_wp2_with fail
  refine HP.out.mono ?_
  rintro e w3 ⟨t, ht, rfl, hc3, hg3⟩
  have Ht3 := Lib.hid (labValW_size t ht)
  have Hg3 := Lib.hid (grown_trans (grown_alloc _ _ _) hg3)
  have Hc3 := Lib.hid hc3
  clear HP hg3 hc3 ht
  go_wp2_with fail
  go_ret
  exact ⟨t, Ht3.out, rfl, Hc3.out, Hg3.out⟩
end Go.Proofs.YtpadpiibiocabaaDoor.draw
namespace Go.Proofs.YtpadpiibiocabaaDoor.draw
open Go.ChangeShapes Go.WideShapes Go.ChangeAt Go.RowKit
set_option linter.unusedVariables false

/-- A drawn yes or no. -/
def GotB (c : Nat) (A : Option Addr) (len cap : Nat) (z : Nat → Int) (w : World) (e : Ending) (w' : World) : Prop :=
  ∃ b : Bool, e = .returned (.bool b) ∧ Cur w' c A len cap z ∧ w.grownBy w' (some c)
theorem once_any (c : Nat) (A : Option Addr) (len cap : Nat) (z : Nat → Int) (n : Int) (w : World) (hc : Cur w c A len cap z) (h0 : 0 < n) (h1 : n ≤ 9223372036854775807) :
    Calls Tryd.prog 53 #[.pointer (some ⟨c, 0, none⟩), .int .i64 n] w (GotB c A len cap z w) := by
  have HB := Lib.hid (below_any c A len cap z n w hc h0 h1)
  clear hc
  go_enter Tryd.func53, Tryd.ntmps53
  go_wp2_with fail
  refine HB.out.mono ?_
  rintro e w1 ⟨x, hx, rfl, hc1, hg1⟩
  have Hc1 := Lib.hid hc1
  have Hg1 := Lib.hid hg1
  clear hc1 hg1 HB hx
  go_wp2_with fail
  go_ret
  exact ⟨_, rfl, Hc1.out, Hg1.out⟩
end Go.Proofs.YtpadpiibiocabaaDoor.draw
