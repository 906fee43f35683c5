/- Merged: DrawNd DrawNm DrawNw DrawNg. -/
import Derived.Test.YtdgedclpaplgoaaGreatDoorGA3
import Derived.Test.YtdgedclpaplgoaaGreatDoorValsS
import Derived.Test.YtdgedclpaplgoaaGreatDoorGA7
import Derived.Test.YtdgedclpaplgoaaGreatDoorGA5
import Derived.Deep.WholeRow
import Derived.Test.YtdgedclpaplgoaaGreatDoorGA16
import Derived.Test.YtdgedclpaplgoaaGreatDoorGA19
import Derived.Test.YtdgedclpaplgoaaGreatDoorGA13
namespace Go.Proofs.YtdgedclpaplgoaaGreatDoor.draw
open Go.ChangeShapes Go.WideShapes Go.ChangeAt Go.RowKit ty lab need dedup
set_option linter.unusedVariables false

structure TinyN (q : Nat) (x : Need) : Prop where
  key : x.key.size ≤ 10
  lo : -1 ≤ x.op
  hi : x.op ≤ 6
  n : x.values.length ≤ q
  vs : ∀ s ∈ x.values, s.size ≤ 5
theorem wf_int {n : Int} (h1 : -1 ≤ n) (h2 : n ≤ 6) : (Lit.int .i64 n).wf = true := by
  have : n = -1 ∨ n = 0 ∨ n = 1 ∨ n = 2 ∨ n = 3 ∨ n = 4 ∨ n = 5 ∨ n = 6 := by omega
  rcases this with rfl | rfl | rfl | rfl | rfl | rfl | rfl | rfl <;> decide
theorem TinyN.wf {q : Nat} {x : Need} (h : TinyN q x) : x.Wf := ⟨by have := h.key; unfold maxLen; omega, wf_int h.lo h.hi⟩
theorem sum_tiny : ∀ l : List ByteArray, (∀ s ∈ l, s.size ≤ 5) → wsum Str.wt l ≤ 5 * l.length
  | [], _ => by simp [wsum]
  | a :: r, h => by
    have h1 := h a List.mem_cons_self
    have h2 := sum_tiny r fun s hs => h s (List.mem_cons_of_mem _ hs)
    have e : wsum Str.wt (a :: r) = a.size + wsum Str.wt r := by simp [wsum, Str.wt]
    rw [e, List.length_cons]
    omega
theorem TinyN.wt {q : Nat} {x : Need} (h : TinyN q x) : x.wt ≤ 10 + 6 * q := by
  have h1 := sum_tiny _ h.vs
  have h2 := h.key
  have h3 := h.n
  unfold Need.wt
  omega
theorem TinyN.more {q q' : Nat} {x : Need} (h : TinyN q x) (hq : q ≤ q') : TinyN q' x := ⟨h.key, h.lo, h.hi, Nat.le_trans h.n hq, h.vs⟩
theorem TinyN.norm {q : Nat} {x : Need} (h : TinyN q x) : TinyN q (normN x) := ⟨h.key, h.lo, h.hi, Nat.le_trans (dsort_length _ _) h.n, fun s hs => h.vs s (dsort_sub _ _ s hs)⟩
theorem tiny_wts {q : Nat} : ∀ l : List Need, (∀ x ∈ l, TinyN q x) → wsum Need.wt l ≤ (10 + 6 * q) * l.length
  | [], _ => by simp [wsum]
  | a :: r, h => by
    have h1 := (h a List.mem_cons_self).wt
    have h2 := tiny_wts r fun s hs => h s (List.mem_cons_of_mem _ hs)
    have e : wsum Need.wt (a :: r) = a.wt + wsum Need.wt r := by simp [wsum]
    rw [e, List.length_cons, Nat.mul_add]
    omega
theorem tiny_out {q : Nat} {l : List Need} (h : ∀ x ∈ l, TinyN q x) : ∀ x ∈ outN l, TinyN q x := fun x hx => by
  have := dsort_sub _ _ x hx
  obtain ⟨y, hy, rfl⟩ := List.mem_map.1 this
  exact (h y hy).norm
/-- A requirement in memory of the call's own is handed back; nothing but the cursor's block (and new blocks) turns. -/
def GotN (q : Nat) (c : Nat) (A : Option Addr) (len cap : Nat) (z : Nat → Int) (w : World) (e : Ending) (w' : World) : Prop :=
  ∃ (x : Need) (us : List Value) (F : List Nat), TinyN q x ∧ e = .returned (.agg us.toArray) ∧ OwnS w' w.heap.size 2 us x.row F ∧ F.Nodup ∧ Cur w' c A len cap z ∧ w.grownBy w' (some c)
theorem heap_cur {a a' : World} {b c : Nat} {o : Obj} (h : a.heap[b]? = some o) (hb : b ≠ c) (hg : a.grownBy a' (some c)) : a'.heap[b]? = some o :=
  (hg.block b (heap_lt h) (fun e => hb (by injection e))).trans h
theorem row_curs {w w' : World} {B c k : Nat} {e : TypeId} {v : Value} {n : Nat} {xs : List Value} (h : w.ownsRow B e k v n xs) (hB : c < B) (hg : w.grownBy w' (some c)) : w'.ownsRow B e k v n xs :=
  h.kept hg (by
    cases hv : v.ownBlock with
    | none => exact .inl rfl
    | some q => exact .inr (fun e => by
        have := (h.lt q hv).1
        injection e with e
        omega))
theorem ownS_cur {w w' : World} {c B f : Nat} {us : List Value} {ds : List C} {F : List Nat} (h : OwnS w B f us ds F) (hB : c < B) (hg : w.grownBy w' (some c)) : OwnS w' B f us ds F :=
  OwnS.kept (fun x hx => hg.block x (h.range x hx).2 (fun e => by have := (h.range x hx).1; injection e with e; omega)) h
theorem ownRow_cur {w w' : World} {B f c k : Nat} {e : TypeId} {v : Value} {n : Nat} {cells : List C} (h : OwnRow w B f e k v n cells) (hB : c < B) (hg : w.grownBy w' (some c)) : OwnRow w' B f e k v n cells := by
  obtain ⟨xs, F, h1, h2, h3, h4, h5⟩ := h
  exact ⟨xs, F, row_curs h1 hB hg, h2, ownS_cur h3 hB hg, h4, h5⟩
theorem scells_snoc (l : List ByteArray) (x : ByteArray) : scells l ++ [.string x] = scells (l ++ [x]) := by simp [scells]
theorem rdk_one (w : World) (s : ByteArray) (t : TypeId) : RdK (w.alloc (.cells #[.string s] t)) (some ⟨w.heap.size, 0, none⟩) 1 1 [.string s] := by
  refine ⟨rfl, fun _ => ⟨_, _, rfl, by simp, fun j u hu => ?_⟩⟩
  rw [Nat.zero_add, cell_of_row _ _ _ _ _ _ (heap_alloc_new w _)]
  simpa using hu
/-- Both boxes stand beside the cursor. -/
structure NdAt (w : World) (c : Nat) (A : Option Addr) (len cap : Nat) (z : Nat → Int) (b1 : Nat) (k : ByteArray) (op : Int) (a : World) : Prop where
  cur : Cur a c A len cap z
  grown : w.grownBy a (some c)
  zero : a.heap[w.heap.size]? = some (.cells #[.string ⟨#[]⟩, .int .i64 0, .slice none 0 0] 31 (0, 0))
  mine : a.heap[b1]? = some (.cells #[.string k, .int .i64 op, .slice none 0 0] 31 (0, 0))
theorem NdAt.turn {w a b : World} {c : Nat} {A : Option Addr} {len cap : Nat} {z : Nat → Int} {b1 : Nat} {k : ByteArray} {op : Int} (h : NdAt w c A len cap z b1 k op a) (hcw : c < w.heap.size) (hb1 : c < b1) (hc : Cur b c A len cap z) (hg : a.grownBy b (some c)) : NdAt w c A len cap z b1 k op b :=
  ⟨hc, grown_trans h.grown hg, heap_cur h.zero (by omega) hg, heap_cur h.mine (by omega) hg⟩
theorem NdAt.below {w a b : World} {c : Nat} {A : Option Addr} {len cap : Nat} {z : Nat → Int} {b1 B : Nat} {k : ByteArray} {op : Int} (h : NdAt w c A len cap z b1 k op a) (hcw : c < w.heap.size) (hB : w.heap.size < B) (hb1 : b1 < B) (hb : Below B a b) : NdAt w c A len cap z b1 k op b :=
  ⟨h.cur.below hb (by omega), grown_below h.grown (hb.mono (by omega)), (hb.block _ hB).trans h.zero, (hb.block _ hb1).trans h.mine⟩
/-- The requirement is done: read out of its box, laid into the result's. -/
theorem NdAt.done {w a : World} {c : Nat} {A : Option Addr} {len cap : Nat} {z : Nat → Int} {b1 : Nat} {k : ByteArray} {op : Int} {q : Nat} {vs : List ByteArray} {v' : Value} {F : List Nat} {B : Nat} (h : NdAt w c A len cap z b1 k op a) (hcw : c < w.heap.size) (hb : w.heap.size < b1) (ht : TinyN q ⟨k, op, vs⟩) (hB : b1 < B)
    (ho : Own a B 2 v' (.sl 1 vs.length (vs.flatMap Str.row)) F) (hn : F.Nodup) :
    GotN q c A len cap z w (.returned (.agg #[.string k, .int .i64 op, v'])) ((a.setCell ⟨b1, 2, none⟩ v').setRow w.heap.size #[.string k, .int .i64 op, v']) := by
  have hwf := ht.wf
  have o1 := Own.setCell_low ho (o := 2) (u := v') hB
  have o2 := Own.setRow_low o1 (c := #[.string k, .int .i64 op, v']) (show w.heap.size < B by omega)
  obtain ⟨G, hoG, hnG, _⟩ := Need.owned (x := ⟨k, op, vs⟩) (f := 1) hwf (o2.lower (B' := w.heap.size) (by omega)) hn
  have hb2 : Below w.heap.size a ((a.setCell ⟨b1, 2, none⟩ v').setRow w.heap.size #[.string k, .int .i64 op, v']) := setRow_below (((Below.refl w.heap.size a).setCell (by show w.heap.size ≤ b1; omega) _)) (Nat.le_refl _) _
  exact ⟨_, _, G, ht, rfl, hoG, hnG, h.cur.below hb2 hcw, grown_below h.grown hb2⟩
set_option maxRecDepth 1000000 in
set_option maxHeartbeats 8000000 in
theorem need_any (c : Nat) (A : Option Addr) (len cap : Nat) (z : Nat → Int) (w : World) (hc : Cur w c A len cap z) :
    Calls Tryz.prog 71 #[.pointer (some ⟨c, 0, none⟩)] w (GotN 3 c A len cap z w) := by
  obtain ⟨i1, hi1, hy0, hy1, hy2⟩ := info_parts TryzinfoStrV
  have hclt := hc.lt
  obtain ⟨W, hW⟩ : ∃ W, W = w.alloc (.cells #[.string ⟨#[]⟩, .int .i64 0, .slice none 0 0] 31) := ⟨_, rfl⟩
  have h0 : W.heap[w.heap.size]? = some (.cells #[.string ⟨#[]⟩, .int .i64 0, .slice none 0 0] 31 (0, 0)) := by rw [hW]; exact heap_alloc_new w _
  have HK := Lib.hid (labKey_any c A len cap z W (by rw [hW]; exact cur_alloc hc _))
  have HgW := Lib.hid (show w.grownBy W (some c) by rw [hW]; exact grown_alloc _ _ _)
  have H0 := Lib.hid h0
  have HW := Lib.hid hW
  clear hc h0 hW
  go_enter Tryz.func71, Tryz.ntmps71
  go_wp2_with fail
  rw [← HW.out]
  go_wp2_with fail
  refine HK.out.mono ?_
  rintro e w1 ⟨k, hk, rfl, hc1, hg1⟩
  have HB := Lib.hid (below_any c A len cap z 4 w1 hc1 (by decide) (by decide))
  have H01 := Lib.hid (heap_cur H0.out (by omega) hg1)
  have Hg1 := Lib.hid (grown_trans HgW.out hg1)
  clear HK hc1 hg1 H0 HgW HW
  go_wp2_with fail
  refine HB.out.mono ?_
  rintro e w2 ⟨x, hx, rfl, hc2, hg2⟩
  have H02 := Lib.hid (heap_cur H01.out (by omega) hg2)
  have Hg2 := Lib.hid (grown_trans Hg1.out hg2)
  have hwx : IntKind.i64.wrap (1 + x) = 1 + x := IntWalk.i64_in _ (by omega)
  obtain ⟨op, hop⟩ : ∃ op, 1 + x = op := ⟨_, rfl⟩
  rw [hop] at hwx
  have ho1 : 1 ≤ op := by omega
  have ho4 : op ≤ 4 := by omega
  obtain ⟨X, hX⟩ : ∃ X, X = w2.alloc (.cells #[.string k, .int .i64 op, .slice none 0 0] 31) := ⟨_, rfl⟩
  have hg3 : w.heap.size < w2.heap.size := heap_lt H02.out
  have hbX : Below w2.heap.size w2 X := by rw [hX]; exact (Below.refl _ _).alloc (Nat.le_refl _) _
  have hmine : X.heap[w2.heap.size]? = some (.cells #[.string k, .int .i64 op, .slice none 0 0] 31 (0, 0)) := by rw [hX]; exact heap_alloc_new w2 _
  have S3 := Lib.hid (show NdAt w c A len cap z w2.heap.size k op X from ⟨hc2.below (hbX.mono hc2.lt) (Nat.lt_succ_self c), grown_below Hg2.out (hbX.mono Hg2.out.size), (hbX.block _ hg3).trans H02.out, hmine⟩)
  have hXs : X.heap.size = w2.heap.size + 1 := by rw [hX]; simp
  have HXs := Lib.hid hXs
  have HX := Lib.hid hX
  have p1 : X.cell? ⟨w2.heap.size, 1, none⟩ = some (.int .i64 op) := by rw [cell_of_row _ _ _ _ _ _ hmine]; rfl
  have Hk := Lib.hid (show k.size ≤ 10 by omega)
  clear hc2 hg2 HB H01 Hg1 hbX hX hXs hk hx
  by_cases h3 : op < 3
  case neg =>
    have HR := Lib.hid (show GotN 3 c A len cap z w (.returned (.agg #[.string k, .int .i64 op, .slice none 0 0])) (X.setRow w.heap.size #[.string k, .int .i64 op, .slice none 0 0]) from by
      have ht : TinyN 3 ⟨k, op, []⟩ := ⟨Hk.out, by simp only; omega, by simp only; omega, by simp, fun s hs => by cases hs⟩
      obtain ⟨G, hoG, hnG, _⟩ := Need.owned (x := ⟨k, op, []⟩) (f := 1) (w := X.setRow w.heap.size #[.string k, .int .i64 op, .slice none 0 0]) (B := w.heap.size) ht.wf (own_nil _ _ 1 1) List.nodup_nil
      have hb2 : Below w.heap.size X (X.setRow w.heap.size #[.string k, .int .i64 op, .slice none 0 0]) := setRow_below (Below.refl _ _) (Nat.le_refl _) _
      exact ⟨_, _, G, ht, rfl, hoG, hnG, S3.out.cur.below hb2 hclt, grown_below S3.out.grown hb2⟩)
    have h52 := S3.out.mine
    have h51 := S3.out.zero
    have H51 := Lib.hid h51
    clear S3 H02 Hg2 hmine
    go_wp2_with (first | (rw [← HX.out]; refine wpList_load_row rfl 31 _ rfl w2.heap.size rfl 31 #[.string k, .int .i64 op, .slice none 0 0] (0, 0) _ h52 Tryz.underlying31 rfl sizeNeed ?_) | (refine wpList_store_row rfl 31 _ _ rfl w.heap.size #[.string k, .int .i64 op, .slice none 0 0] rfl rfl 31 _ h51 sizeNeed rfl (by simp [Value.oneCell']) ?_) | fail)
    refine bodyPost_ret (v := .agg #[.string k, .int .i64 op, .slice none 0 0]) ?_ rfl HR.out
    exact results_cell_row rfl _ _ w.heap.size _ _ (0, 0) _ rfl (setRow_at H51.out) Tryz.underlying31 rfl sizeNeed
  have hown0 : (X.alloc (.cells #[] 9)).ownsRow X.heap.size 9 1 (.slice (some ⟨X.heap.size, 0, none⟩) 0 0) 0 (scells []) := World.ownsRow_lit X #[] 0 (Nat.le_refl _) (by simp [maxLen]) rfl
  have S4 := Lib.hid (S3.out.below hclt (B := X.heap.size) (by rw [HXs.out]; omega) (by rw [HXs.out]; omega) ((Below.refl _ _).alloc (Nat.le_refl _) (.cells #[] 9)))
  rw [show (some ⟨X.heap.size, 0, none⟩ : Option Addr) = some ⟨w2.heap.size + 1, 0, none⟩ by rw [HXs.out]] at hown0
  have Hown0 := Lib.hid hown0
  have hXs1 : w2.heap.size < X.heap.size := by rw [HXs.out]; omega
  clear hown0 hmine H02 Hg2 S3
  go_wp2_with fail
  rw [← HX.out]
  go_wp2_with fail
  go_loopw [4, 5] (fun vo i wr => ∃ (j : Nat) (vs : List ByteArray), j ≤ 3 ∧ i = .int .i64 j ∧ Hid (∀ s ∈ vs, s.size ≤ 5) ∧ Hid (vs.length = j) ∧ wr.ownsRow X.heap.size 9 1 vo j (scells vs) ∧ NdAt w c A len cap z w2.heap.size k op wr ∧ X.heap.size ≤ wr.heap.size) (fun _ i _ => 3 - (intOf i).toNat)
  case atStart => exact ⟨0, [], by omega, rfl, (fun s hs => by cases hs), rfl, Hown0.out, S4.out, by simp⟩
  case round =>
    clear Hown0 S4 p1
    obtain ⟨j, vs, hj, rfl, hvs, hvl, hown, hst, hsz⟩ := hrel
    obtain ⟨Av, cv, rfl⟩ := own_is_slice hown
    have HB := Lib.hid (below_any c A len cap z 3 wr hst.cur (by decide) (by decide))
    have Hst := Lib.hid hst
    have Hown := Lib.hid hown
    have hcX : c < X.heap.size := by omega
    clear hst hown
    go_wp2_with fail
    refine HB.out.mono ?_
    rintro e w4 ⟨y, hy, rfl, hc4, hg4⟩
    have S4 := Lib.hid (Hst.out.turn hclt (by omega) hc4 hg4)
    have Hown4 := Lib.hid (row_curs Hown.out hcX hg4)
    have Hsz4 := Lib.hid (Nat.le_trans hsz hg4.size)
    have hwy : IntKind.i64.wrap (1 + y) = 1 + y := IntWalk.i64_in _ (by omega)
    clear hc4 hg4 HB Hst Hown hsz
    by_cases hlt : (j : Int) < 1 + y
    · have hj2 : j < 3 := by omega
      have HV := Lib.hid (labVal_any c A len cap z w4 S4.out.cur)
      go_wp2_with fail
      refine HV.out.mono ?_
      rintro e w5 ⟨t, ht, rfl, hc5, hg5⟩
      have S5 := Lib.hid (S4.out.turn hclt (by omega) hc5 hg5)
      have Hown5 := Lib.hid (row_curs Hown4.out hcX hg5)
      have hsz5 := Nat.le_trans Hsz4.out hg5.size
      have Hrd := Lib.hid (rdk_one w5 t 9)
      clear hc5 hg5 HV S4 Hown4 Hsz4
      go_wp2_with (first | (at_builtin; refine wpList_append_rdk rfl (.tmp 23) (.tmp 26) 29 rfl X.heap.size 9 i1 _ 1 16 Tryz.underlying29 hi1 hy0 hy1 hy2 rfl (by decide) _ j (scells vs) rfl (own_below' Hown5.out ((Below.refl _ _).alloc (Nat.le_refl _) _)) (some ⟨w5.heap.size, 0, none⟩) 1 1 [.string t] rfl Hrd.out (by intro u hu; simp at hu; subst hu; rfl) (by unfold maxLen; omega) (by omega) (by simp; omega) ?_) | fail)
      intro v7 w7 hown7 hg7 hat7
      rw [scells_snoc] at hown7
      have hb7 : Below X.heap.size w5 w7 := Below.grown ((Below.refl X.heap.size w5).alloc hsz5 _) hg7 (by simp; omega) (fun b hb => (Hown5.out.lt b hb).1)
      have S7 := Lib.hid (S5.out.below hclt (B := X.heap.size) (by omega) hXs1 hb7)
      have Hown7 := Lib.hid hown7
      have Hsz7 := Lib.hid (Nat.le_trans hsz5 hb7.size)
      have HT := Lib.hid (show ∀ s ∈ vs ++ [t], s.size ≤ 5 from fun s hs => by
        rcases List.mem_append.1 hs with hs | hs
        · exact hvs.out s hs
        · rw [List.mem_singleton] at hs; subst hs; omega)
      have HL := Lib.hid (show (vs ++ [t]).length = j + 1 by rw [List.length_append, hvl.out]; rfl)
      clear hown7 hg7 hat7 hb7 S5 Hown5 hsz5 Hrd
      go_wp2_with fail
      go_roundw
      case rel => exact ⟨j + 1, vs ++ [t], by omega, by go_num, HT.out, HL.out, Hown7.out, S7.out, Hsz7.out⟩
      case measure => simp [intOf]; omega
    · have hvl' := hvl.out
      have hz5 : ∀ s ∈ vs, s.size ≤ maxLen := fun s hs => by have := hvs.out s hs; unfold maxLen; omega
      have hown4 := Hown4.out
      rw [← hvl'] at hown4
      obtain ⟨F4, ho4, _, _⟩ := (ownRow_strs (f := 0) hown4 hz5).own
      rw [← Str.flat] at ho4
      have HVs := Lib.hid (spec_vals vs 2 (.slice Av vs.length cv) w4 ho4.lies (by omega))
      rw [hvl'] at HVs
      have HT := Lib.hid (show TinyN 3 ⟨k, op, dsort lessB vs⟩ from ⟨Hk.out, by simp only; omega, by simp only; omega, by have := dsort_length lessB vs; simp only; omega, fun s hs => hvs.out s (dsort_sub _ _ s hs)⟩)
      have Hsz := Lib.hid Hsz4.out
      clear hvl' hz5 hown4 ho4 Hown4 Hsz4 hvs hvl
      generalize dsort lessB vs = ds at HVs HT
      go_wp2_with fail
      refine HVs.out.mono ?_
      rintro e w6 ⟨v6, rfl, hrow6, hb6⟩
      have hsz4 := Hsz.out
      have S6 := Lib.hid (S4.out.below hclt (B := X.heap.size) (by omega) hXs1 (hb6.mono hsz4))
      obtain ⟨B6, d6, rfl⟩ := hrow6.is_slice
      obtain ⟨F6, ho6, hn6, _⟩ := hrow6.own
      have HR := Lib.hid (S6.out.done hclt (q := 3) (vs := ds) (v' := .slice B6 ds.length d6) (F := F6) (B := w4.heap.size) (by omega) HT.out (by omega) ho6 hn6)
      have h22 := S6.out.mine
      have p2 : w6.cell? ⟨w2.heap.size, 2, none⟩ = some (.slice none 0 0) := by rw [cell_of_row _ _ 2 _ _ _ h22]; rfl
      have f2 := frozen_of_row w6 _ 2 _ _ h22
      have h52 : (w6.setCell ⟨w2.heap.size, 2, none⟩ (.slice B6 ds.length d6)).heap[w2.heap.size]? = some (.cells #[.string k, .int .i64 op, .slice B6 ds.length d6] 31 (0, 0)) := heap_setCell_same _ _ _ _ _ _ h22
      have h51 : (w6.setCell ⟨w2.heap.size, 2, none⟩ (.slice B6 ds.length d6)).heap[w.heap.size]? = some (.cells #[.string ⟨#[]⟩, .int .i64 0, .slice none 0 0] 31 (0, 0)) := (Below.heap_setCell _ _ _ _ (by show w.heap.size ≠ w2.heap.size; omega)).trans S6.out.zero
      have H51 := Lib.hid h51
      clear hrow6 ho6 hn6 hb6 S6 S4 HVs HT h22
      generalize hz : w6.setCell ⟨w2.heap.size, 2, none⟩ (.slice B6 ds.length d6) = z6 at *
      go_wp2_with (first | (refine wpList_load_row rfl 31 _ rfl w2.heap.size rfl 31 #[.string k, .int .i64 op, .slice B6 ds.length d6] (0, 0) _ h52 Tryz.underlying31 rfl sizeNeed ?_) | (refine wpList_store_row rfl 31 _ _ rfl w.heap.size #[.string k, .int .i64 op, .slice B6 ds.length d6] rfl rfl 31 _ h51 sizeNeed rfl (by simp [Value.oneCell']) ?_) | fail)
      refine bodyPost_ret (v := .agg #[.string k, .int .i64 op, .slice B6 ds.length d6]) ?_ rfl HR.out
      exact results_cell_row rfl _ _ w.heap.size _ _ (0, 0) _ rfl (setRow_at H51.out) Tryz.underlying31 rfl sizeNeed
end Go.Proofs.YtdgedclpaplgoaaGreatDoor.draw
namespace Go.Proofs.YtdgedclpaplgoaaGreatDoor
open Go Go.RowKit
/-- An owned slice is a row of some element type. -/
theorem row_of_own {w : World} {B f size n : Nat} {v : Value} {cells : List C} {F : List Nat} (t0 : TypeId) (h : Own w B (f + 1) v (.sl size n cells) F) (hn : F.Nodup) : ∃ e, OwnRow w B f e size v n cells := by
  obtain ⟨hl, ⟨rfl, h0, rfl⟩ | ⟨g, c, cur, e, Fs, rfl, h1, h2, h3, h4, hz, rfl, h5, h6⟩⟩ := h
  · subst h0
    have : cells = [] := List.eq_nil_of_length_eq_zero (by simpa using hl)
    subst this
    exact ⟨t0, OwnRow.nil w B f t0 size⟩
  · have hle : n * size ≤ c * size := Nat.mul_le_mul_right _ h1
    have hlen : (cur.toList.take (n * size)).length = n * size := by
      rw [List.length_take, Array.length_toList]
      omega
    obtain ⟨n1, n2⟩ := List.nodup_cons.1 hn
    refine ⟨e, cur.toList.take (n * size), Fs.flatten, ⟨hlen, .inr ⟨g, c, cur, rfl, h3, h4, h1, h2, hz, rfl⟩⟩, hl, ⟨by rw [hlen, hl], Fs, h5, rfl, fun m u d Fm hu hd hF => ?_⟩, n2, fun x hx e => ?_⟩
    · obtain ⟨u', hu', ho⟩ := h6 m d Fm hd hF
      have hm : m < n * size := by rw [← hl]; exact (List.getElem?_eq_some_iff.1 hd).1
      rw [List.getElem?_take_of_lt hm, Array.getElem?_toList, hu'] at hu
      injection hu with hu
      exact hu ▸ ho
    · simp only [Value.ownBlock, Option.some.injEq] at e
      exact n1 (e ▸ hx)
end Go.Proofs.YtdgedclpaplgoaaGreatDoor
namespace Go.Proofs.YtdgedclpaplgoaaGreatDoor.draw
open Go.ChangeShapes Go.WideShapes Go.ChangeAt Go.RowKit ty lab need dedup
set_option linter.unusedVariables false

theorem own_curN {w w' : World} {c B f : Nat} {v : Value} {d : C} {F : List Nat} (h : Own w B f v d F) (hB : c < B) (hg : w.grownBy w' (some c)) : Own w' B f v d F :=
  h.kept fun x hx => hg.block x (h.range x hx).2 (fun e => by have := (h.range x hx).1; injection e with e; omega)
/-- A list of requirements of the call's own is handed back. -/
def GotNL (P : List Need → Prop) (c : Nat) (A : Option Addr) (len cap : Nat) (z : Nat → Int) (w : World) (e : Ending) (w' : World) : Prop :=
  ∃ (l : List Need) (v : Value) (f : Nat) (F : List Nat), P l ∧ e = .returned v ∧ Own w' w.heap.size (f + 1) v (.sl 3 l.length (l.flatMap Need.row)) F ∧ F.Nodup ∧ Cur w' c A len cap z ∧ w.grownBy w' (some c)
/-- What stands beside the cursor while a list grows. -/
structure StN (w : World) (c : Nat) (A : Option Addr) (len cap : Nat) (z : Nat → Int) (v : Value) (l : List Need) (f : Nat) (F : List Nat) (a : World) : Prop where
  cur : Cur a c A len cap z
  grown : w.grownBy a (some c)
  own : Own a w.heap.size (f + 1) v (.sl 3 l.length (l.flatMap Need.row)) F
  nd : F.Nodup
theorem StN.turn {w a b : World} {c : Nat} {A : Option Addr} {len cap : Nat} {z : Nat → Int} {v : Value} {l : List Need} {f : Nat} {F : List Nat} (h : StN w c A len cap z v l f F a) (hcw : c < w.heap.size) (hc : Cur b c A len cap z) (hg : a.grownBy b (some c)) : StN w c A len cap z v l f F b :=
  ⟨hc, grown_trans h.grown hg, own_curN h.own hcw hg, h.nd⟩
theorem StN.below {w a b : World} {c : Nat} {A : Option Addr} {len cap : Nat} {z : Nat → Int} {v : Value} {l : List Need} {f : Nat} {F : List Nat} (h : StN w c A len cap z v l f F a) (hcw : c < w.heap.size) (hb : Below a.heap.size a b) : StN w c A len cap z v l f F b :=
  ⟨h.cur.below (hb.mono h.grown.size) hcw, grown_below h.grown (hb.mono h.grown.size), h.own.below hb, h.nd⟩
theorem StN.got {w a : World} {c : Nat} {A : Option Addr} {len cap : Nat} {z : Nat → Int} {v : Value} {l : List Need} {f : Nat} {F : List Nat} {P : List Need → Prop} (h : StN w c A len cap z v l f F a) (hP : P l) : GotNL P c A len cap z w (.returned v) a :=
  ⟨l, v, f, F, hP, rfl, h.own, h.nd, h.cur, h.grown⟩
def TinyL (m q : Nat) (l : List Need) : Prop := l.length ≤ m ∧ ∀ x ∈ l, TinyN q x
theorem TinyL.snoc {m q : Nat} {l : List Need} {x : Need} (h : TinyL m q l) (hx : TinyN q x) : TinyL (m + 1) q (l ++ [x]) := ⟨by have := h.1; simp; omega, fun y hy => by
  rcases List.mem_append.1 hy with hy | hy
  · exact h.2 y hy
  · rw [List.mem_singleton] at hy; subst hy; exact hx⟩
theorem TinyL.more {m q m' q' : Nat} {l : List Need} (h : TinyL m q l) (hm : m ≤ m') (hq : q ≤ q') : TinyL m' q' l := ⟨Nat.le_trans h.1 hm, fun x hx => (h.2 x hx).more hq⟩
theorem TinyL.wts {m q : Nat} {l : List Need} (h : TinyL m q l) (hm : m ≤ 100) (hq : q ≤ 100) : l.length + wsum Need.wt l ≤ 1048576 := by
  have h1 := tiny_wts l h.2
  have h2 := h.1
  have h3 : (10 + 6 * q) * l.length ≤ 610 * 100 := Nat.mul_le_mul (by omega) (by omega)
  omega
theorem tiny_sorted {m q : Nat} {l : List Need} (h : TinyL m q l) (h2 : (sortN l).2 = true) : TinyL 4 q (sortN l).1 := by
  by_cases hc : l.length ≤ 40 ∧ FewN l l.length ∧ SelP (outN l)
  · rw [sortN_yes hc]
    exact ⟨hc.2.2.1, tiny_out h.2⟩
  · rw [sortN_no hc] at h2
    cases h2
theorem us3 {w : World} {B f : Nat} {us : List Value} {x : Need} {F : List Nat} (h : OwnS w B f us x.row F) : ∃ u0 u1 u2, us = [u0, u1, u2] := of_Need (by rw [h.1, Need.row_length])
end Go.Proofs.YtdgedclpaplgoaaGreatDoor.draw
namespace Go.Proofs.YtdgedclpaplgoaaGreatDoor.draw
open Go.ChangeShapes Go.WideShapes Go.ChangeAt Go.RowKit ty lab need dedup
set_option linter.unusedVariables false

/-- A drawn list in memory of the call's own. -/
def NeedsDrawn (w : World) (e : Ending) (w' : World) : Prop := ∃ (l : List Need) (v : Value) (f : Nat) (F : List Nat), TinyL 45 5 l ∧ e = .returned v ∧ Own w' w.heap.size (f + 1) v (.sl 3 l.length (l.flatMap Need.row)) F ∧ Below w.heap.size w w'
theorem dropN_rev {l : List Need} {m : Nat} (h : m < l.length) : (l.drop m).reverse = (l.drop (m + 1)).reverse ++ [l[m]] := by
  rw [List.drop_eq_getElem_cons h, List.reverse_cons]
theorem rows_snoc (l : List Need) (x : Need) : (l ++ [x]).flatMap Need.row = l.flatMap Need.row ++ x.row := by simp
/-- A slice of the call's own whose elements lie anywhere. -/
theorem lies_own {w : World} {B f n : Nat} {e : TypeId} {v : Value} {xs : List Value} {cells : List C} (h : w.ownsRow B e 3 v n xs) (hc : LiesS w f xs cells) : Lies w (f + 1) v (.sl 3 n cells) := by
  have h' := h
  obtain ⟨h1, h2⟩ := h
  rcases h2 with ⟨rfl, rfl⟩ | ⟨g, cap, cur, rfl, _, hg, hn2, hm, _, ht⟩
  · exact ⟨none, 0, rfl, Nat.le_refl _, by unfold maxLen; omega, by rw [← hc.1, h1], fun h => absurd h (by simp)⟩
  · refine ⟨some ⟨g, 0, none⟩, cap, rfl, hn2, hm, by rw [← hc.1, h1], fun _ => ⟨g, 0, rfl, heap_lt hg, fun m d hd => ?_⟩⟩
    have hml : m < xs.length := by rw [hc.1]; exact (List.getElem?_eq_some_iff.1 hd).1
    have hu := List.getElem?_eq_getElem hml
    have := h'.cells (g := g) rfl m _ hu
    rw [Addr.add_lit] at this
    exact ⟨_, this, hc.2 m _ d hu hd⟩
theorem liesS_app {w : World} {f : Nat} {xs ys : List Value} {cs ds : List C} (h1 : LiesS w f xs cs) (h2 : LiesS w f ys ds) : LiesS w f (xs ++ ys) (cs ++ ds) := by
  refine ⟨by simp [h1.1, h2.1], fun m u d hu hd => ?_⟩
  by_cases hm : m < xs.length
  · rw [List.getElem?_append_left hm] at hu
    rw [List.getElem?_append_left (by rw [← h1.1]; exact hm)] at hd
    exact h1.2 m u d hu hd
  · rw [List.getElem?_append_right (by omega)] at hu
    rw [List.getElem?_append_right (by rw [← h1.1]; omega), ← h1.1] at hd
    exact h2.2 _ u d hu hd
end Go.Proofs.YtdgedclpaplgoaaGreatDoor.draw
namespace Go.Proofs.YtdgedclpaplgoaaGreatDoor.draw
open Go.ChangeShapes Go.WideShapes Go.ChangeAt Go.RowKit ty lab need dedup
set_option linter.unusedVariables false

theorem grow_list {w w1 w3 : World} {c f : Nat} {A : Option Addr} {len cap : Nat} {z : Nat → Int} {v : Value} {l : List Need} {F : List Nat} {y : Need} {us : List Value} {G : List Nat} {T : TypeId} (t0 : TypeId)
    (S : StN w c A len cap z v l f F w1) (hcw : c < w.heap.size) (hc3 : Cur w3 c A len cap z) (hg : w1.grownBy w3 (some c)) (hoG : OwnS w3 w1.heap.size 2 us y.row G) (hnG : G.Nodup) (hus : us.length = 3) :
    ∃ e0 xs, (w3.alloc (.cells us.toArray T)).ownsRow w.heap.size e0 3 v l.length xs ∧ RdK (w3.alloc (.cells us.toArray T)) (some ⟨w3.heap.size, 0, none⟩) 1 3 us ∧ (∀ u ∈ us, u.oneCell' = true) ∧ w.heap.size ≤ (w3.alloc (.cells us.toArray T)).heap.size ∧
      ∀ v7 w7 e7, w7.ownsRow w.heap.size e7 3 v7 (l.length + 1) (xs ++ us) → (w3.alloc (.cells us.toArray T)).grownBy w7 v.ownBlock → (v7.ownBlock = v.ownBlock ∨ v7.ownBlock = some (w3.heap.size + 1)) →
        ∃ F7, StN w c A len cap z v7 (l ++ [y]) (f + 2) F7 w7 := by
  obtain ⟨e0, hrow⟩ := row_of_own t0 S.own S.nd
  obtain ⟨xs, F2, hr1, hr2, hr3, hr4, hr5⟩ := hrow
  have hFG : ∀ q ∈ F2, q ∉ G := fun q hq hqG => by
    have h1 := (hoG.range q hqG).1
    have h2 := (hr3.range q hq).2
    omega
  have hvG : ∀ q ∈ G, v.ownBlock ≠ some q := fun q hqG e => by
    have h1 := (hoG.range q hqG).1
    have h2 := (hr1.lt q e).2
    omega
  have hbX : Below w3.heap.size w3 (w3.alloc (.cells us.toArray T)) := (Below.refl _ _).alloc (Nat.le_refl _) _
  have hs1 := S.grown.size
  have hs3 := hg.size
  have hsX : w.heap.size ≤ (w3.alloc (.cells us.toArray T)).heap.size := Nat.le_trans hs1 (Nat.le_trans hs3 hbX.size)
  have hrX := own_below' (row_curs hr1 hcw hg) hbX
  refine ⟨e0, xs, hrX, rdkN_row hus (heap_alloc_new w3 _), hoG.ones, hsX, fun v7 w7 e7 h7 hg7 hat7 => ?_⟩
  have hrow7 := OwnRow.grow (w := w3.alloc (.cells us.toArray T)) (f := f + 2) (m := 1) hr2 ((ownS_cur hr3 hcw hg).below hbX |>.deeper (by omega)) hr4 hr5 (Need.row_length y) (((hoG.lower hs1).below hbX).deeper (by omega)) hnG hFG hvG h7 hg7 (hat7.imp id fun h => h.trans (by simp))
  have hfl : (l ++ [y]).flatMap Need.row = l.flatMap Need.row ++ y.row := by rw [List.flatMap_append]; simp
  rw [← hfl] at hrow7
  obtain ⟨F7, ho7, hn7, _⟩ := hrow7.own
  have hb7 : Below w.heap.size (w3.alloc (.cells us.toArray T)) w7 := (Below.refl _ _).grown hg7 hsX (fun q hq => (hrX.lt q hq).1)
  have hb : Below w.heap.size w3 w7 := (hbX.mono (by omega)).trans hb7
  have hl : (l ++ [y]).length = l.length + 1 := by simp
  rw [← hl] at ho7
  exact ⟨F7, hc3.below hb hcw, grown_below (grown_trans S.grown hg) hb, ho7, hn7⟩
end Go.Proofs.YtdgedclpaplgoaaGreatDoor.draw
