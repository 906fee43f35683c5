/- spec.DrawPutKid. Printed by gen/gen_drawput.py. -/
import Derived.Test.YtfggpcahfpjgmaaDoorGAny
import Derived.Test.YtfggpcahfpjgmaaDoorBigL
namespace Go.Proofs.YtfggpcahfpjgmaaDoor.tree
open Go.ChangeShapes Go.WideShapes Go.ChangeAt Go.RowKit draw
set_option linter.unusedVariables false

theorem ret_three {fn : Func} {c u d : Tmp} {tmps : Array Value} {w : World} {g g2 : Nat} {vs us : Array Value} {x : Value} (h : fn.results = #[.cell c 27, .tmp u, .cell d 27])
    (hc : tmps.getD c undef = .pointer (some ⟨g, 0, none⟩)) (hu : tmps.getD u undef = x) (hd : tmps.getD d undef = .pointer (some ⟨g2, 0, none⟩)) (hsz : vs.size = 6) (hsz2 : us.size = 6)
    (hg : w.heap[g]? = some (.cells vs 27 (0, 0))) (hg2 : w.heap[g2]? = some (.cells us 27 (0, 0))) : (results fn tmps).run Tryd.prog w = .ok (.tuple #[.agg vs, x, .agg us]) w := by
  have hl := run_loadVar_row (P := Tryd.prog) w g _ 27 vs (0, 0) _ hg Tryd.underlying27 rfl (by rw [hsz]; exact tree_size')
  have hl2 := run_loadVar_row (P := Tryd.prog) w g2 _ 27 us (0, 0) _ hg2 Tryd.underlying27 rfl (by rw [hsz2]; exact tree_size')
  have e : (results fn tmps).run Tryd.prog w = ((asAddr (tmps.getD c undef)).run Tryd.prog w).andThen fun a w1 => ((loadVar 27 a).run Tryd.prog w1).andThen fun v w2 => ((asAddr (tmps.getD d undef)).run Tryd.prog w2).andThen fun a2 w3 => ((loadVar 27 a2).run Tryd.prog w3).andThen fun v2 w4 => .ok (.tuple #[v, tmps.getD u undef, v2]) w4 := by
    simp only [results, h]
    simp [Sem.run_bind, Result.andThen]
  rw [e, hc, hu, hd]
  simp [asAddr, Result.andThen, hl, hl2]
/-- A map under way, in its box m. -/
def MapQ (d : Nat) (c : Nat) (A : Option Addr) (len cap : Nat) (z : Nat → Int) (w : World) (m j : Nat) (wr : World) : Prop :=
  ∃ t us f F, MapGood d j t ∧ wr.heap[m]? = some (.cells us.toArray 27 (0, 0)) ∧ OwnS wr (m + 1) f us (row t) F ∧ F.Nodup ∧ Cur wr c A len cap z ∧ w.grownBy wr (some c) ∧ w.heap.size ≤ m
theorem MapQ.drew {d c len cap m j : Nat} {A : Option Addr} {z : Nat → Int} {w wr w2 : World} (h : MapQ d c A len cap z w m j wr) (hcw : c < w.heap.size) (hc2 : Cur w2 c A len cap z) (hg : wr.grownBy w2 (some c)) : MapQ d c A len cap z w m j w2 := by
  obtain ⟨t, us, f, F, h1, h2, h3, h4, h5, h6, h8⟩ := h
  exact ⟨t, us, f, F, h1, kept_block hg (by omega) h2, owns_drew h3 hg (by omega), h4, hc2, grown_trans h6 hg, h8⟩
theorem MapQ.put {d c len cap m j f3 : Nat} {A : Option Addr} {z : Nat → Int} {w w6 : World} {t kid : T} {us : List Value} {old : Array Value} {F : List Nat} {key : ByteArray} (hcw : c < w.heap.size) (hwm : w.heap.size ≤ m) (mg : MapGood d j t) (hk : WordOk key) (good : Good d kid)
    (hm : w6.heap[m]? = some (.cells old 27 (0, 0))) (ho : OwnS w6 (m + 1) f3 us (row (putKid t key kid).1) F) (hn : F.Nodup) (hc : Cur w6 c A len cap z) (hg : w.grownBy w6 (some c)) : MapQ d c A len cap z w m (j + 1) (w6.setRow m us.toArray) := by
  have hb : Below m w6 (w6.setRow m us.toArray) := setRow_below (Below.refl m w6) (Nat.le_refl _) us.toArray
  refine ⟨_, us, f3, F, mg.put hk good, setRow_at hm, OwnS.kept (fun y hy => ?_) ho, hn, hc.below hb (by omega), grown_below hg (hb.mono (by omega)), hwm⟩
  have h3 := (ho.range y hy).1
  simp only [World.setRow, Array.getElem?_modify]
  rw [if_neg (by omega)]
/-- What is handed back. -/
def DrawnP (w : World) (e : Ending) (w' : World) : Prop := ∃ t key kid us vs f F f2 G, weight t ≤ 20000 ∧ key.size ≤ 28 ∧ weight kid ≤ 20000 ∧ e = .returned (.tuple #[.agg us.toArray, .string key, .agg vs.toArray]) ∧ OwnS w' w.heap.size f us (row t) F ∧ F.Nodup ∧ OwnS w' w.heap.size f2 vs (row kid) G ∧ Below w.heap.size w w'
theorem drawn_of {w w2 w7 w9 : World} {c : Nat} {t kid : T} {key : ByteArray} {us vs : List Value} {f f2 : Nat} {F G : List Nat} (hb2 : Below w.heap.size w w2) (hc : w.heap.size ≤ c) (hg : w2.grownBy w7 (some c)) (hwt : weight t ≤ 20000) (hk : key.size ≤ 28) (hwk : weight kid ≤ 20000) (h27 : w.heap.size + 2 ≤ w2.heap.size)
    (ho : OwnS w7 w2.heap.size f us (row t) F) (hn : F.Nodup) (ho2 : OwnS w7 w2.heap.size f2 vs (row kid) G) (h9 : Below w.heap.size w7 w9) (hs : ∀ x, w.heap.size + 2 ≤ x → w9.heap[x]? = w7.heap[x]?) : DrawnP w (.returned (.tuple #[.agg us.toArray, .string key, .agg vs.toArray])) w9 :=
  ⟨t, key, kid, us, vs, f, F, f2, G, hwt, hk, hwk, rfl, (OwnS.kept (fun x hx => hs x (by have := (ho.range x hx).1; omega)) ho).lower (by omega), hn, (OwnS.kept (fun x hx => hs x (by have := (ho2.range x hx).1; omega)) ho2).lower (by omega),
    (hb2.grown hg hb2.size (fun b hb => by injection hb with hb; omega)).trans h9⟩
theorem row_other {w : World} {g x : Nat} {vs : Array Value} (h : x ≠ g) : (w.setRow g vs).heap[x]? = w.heap[x]? := by
  simp only [World.setRow, Array.getElem?_modify]
  rw [if_neg (fun e => h e.symm)]
theorem kept_lowc {w w' : World} {c x b : Nat} {o : Obj} (h : w.grownBy w' (some c)) (hc : b ≤ c) (hx : x < b) (ho : w.heap[x]? = some o) : w'.heap[x]? = some o :=
  (h.block x (heap_lt ho) (fun e => by injection e with e; omega)).trans ho
set_option maxRecDepth 1000000 in
set_option maxHeartbeats 16000000 in
theorem drawPut_any (A : Option Addr) (len cap : Nat) (zs : List Int) (w : World) (hr : IsRow .u8 w A len cap zs) (hlen : len ≤ 1048576) :
    Calls Tryd.prog 5 #[.slice A len cap] w (DrawnP w) := by
  obtain ⟨w1, hw1⟩ : ∃ w1, w1 = (w.alloc (.cells zeroRow 27)).alloc (.cells zeroRow 27) := ⟨_, rfl⟩
  have hb1 : Below w.heap.size w w1 := by rw [hw1]; exact ((Below.refl _ _).alloc (Nat.le_refl _) _).alloc (by simp) _
  have hs1 : w1.heap.size = w.heap.size + 2 := by rw [hw1]; simp
  have hz2 : w1.heap[w.heap.size]? = some (.cells zeroRow 27 (0, 0)) := by rw [hw1, Below.heap_alloc _ _ _ (by simp)]; exact heap_alloc_new w _
  have hz4 : w1.heap[w.heap.size + 1]? = some (.cells zeroRow 27 (0, 0)) := by
    have h := heap_alloc_new (w.alloc (.cells zeroRow 27)) (.cells zeroRow 27)
    rw [World.size_alloc] at h
    rw [hw1]; exact h
  have HN := Lib.hid (new_any A len cap zs w1 (hr.below hb1) hlen)
  have Hb1 := Lib.hid hb1
  have Hs1 := Lib.hid hs1
  have Hz2 := Lib.hid hz2
  have Hz4 := Lib.hid hz4
  have Hw1 := Lib.hid hw1
  clear hr hb1 hz2 hz4 hw1 hs1
  go_enter Tryd.func5, Tryd.ntmps5
  go_wp2_with fail
  rw [← Hw1.out]
  refine HN.out.mono ?_
  clear HN
  rintro e w2 ⟨c, rfl, hcw, hc, hb2⟩
  generalize (fun j => zs.getD j 0) = z at hc
  have HA := Lib.hid (any_any c A len cap z w2 hc)
  have Hr2 := Lib.hid (heap_kept hb2 (heap_lt Hz2.out) Hz2.out)
  have Hr4 := Lib.hid (heap_kept hb2 (heap_lt Hz4.out) Hz4.out)
  have Hlo2 := Lib.hid (show w.heap.size + 2 ≤ w2.heap.size by have h1 := hb2.size; have h2 := Hs1.out; omega)
  have Hc2lo := Lib.hid (show w.heap.size + 2 ≤ c by have h2 := Hs1.out; omega)
  have Hclo := Lib.hid (show w.heap.size ≤ c by have h2 := Hs1.out; omega)
  have Hb2 := Lib.hid (below_link Hb1.out hb2 Hb1.out.size)
  have Hcw := Lib.hid (show c < w2.heap.size from hc.lt)
  clear hc hb2 hcw Hz2 Hz4 Hb1 Hs1 Hw1
  go_wp2_with fail
  refine HA.out.mono ?_
  rintro e w3 ⟨t, us, f4, F, hwt, rfl, ho, hnd, hc3, hg3⟩
  obtain ⟨y0, y1, y2, y3, y4, y5, rfl⟩ := six_of (ho.1.trans (row_length _))
  obtain ⟨w4, hw4⟩ : ∃ w4, w4 = w3.alloc (.cells #[y0, y1, y2, y3, y4, y5] 27) := ⟨_, rfl⟩
  have hb34 : Below w3.heap.size w3 w4 := by rw [hw4]; exact (Below.refl _ _).alloc (Nat.le_refl _) _
  have hm4 : w4.heap[w3.heap.size]? = some (.cells #[y0, y1, y2, y3, y4, y5] 27 (0, 0)) := by rw [hw4]; exact heap_alloc_new w3 _
  have hone4 := ho.one
  have HO := Lib.hid (once_any c A len cap z 2 w4 (hc3.below hb34 hc3.lt) (by decide) (by decide))
  have Hm4 := Lib.hid hm4
  have Ho4 := Lib.hid (ho.below hb34)
  have Hg4 := Lib.hid (grown_below hg3 (hb34.mono hg3.size))
  have hgw : w2.heap.size ≤ w3.heap.size := hg3.size
  have Hwt := Lib.hid hwt
  have Hnd := Lib.hid hnd
  have Hw4 := Lib.hid hw4
  clear hb34 hm4 ho hg3 hc3 hwt hw4 HA
  go_wp2_with (first | (refine wpList_store_row rfl 27 _ _ rfl w3.heap.size #[y0, y1, y2, y3, y4, y5] rfl rfl 27 _ (heap_alloc_new w3 _) tree_size' rfl hone4 ?_; rw [World.setRow_alloc_new]) | fail)
  rw [← Hw4.out]
  refine HO.out.mono ?_
  rintro e w5 ⟨b, rfl, hc5, hg5⟩
  generalize w3.heap.size = g at Hm4 hgw
  have hcm : c < g := by have := Hcw.out; omega
  have Hm := Lib.hid (kept_block hg5 hcm Hm4.out)
  have Ho := Lib.hid (owns_drew Ho4.out hg5 Hcw.out)
  have Hc := Lib.hid hc5
  have Hg := Lib.hid (grown_trans Hg4.out hg5)
  clear HO hc5 hg5 Hm4 Ho4 Hg4 Hw4
  cases b with
  | false =>
    have HWd := Lib.hid (fun w' (h : Cur w' c A len cap z) => word_any c A len cap z w' h)
    have HAn := Lib.hid (fun w' (h : Cur w' c A len cap z) => any_any c A len cap z w' h)
    obtain ⟨wa, hwa⟩ : ∃ wa, wa = w5.drew := ⟨_, rfl⟩
    have Hma := Lib.hid (show wa.heap[g]? = some (.cells #[y0, y1, y2, y3, y4, y5] 27 (0, 0)) by rw [hwa]; exact Hm.out)
    have Hca := Lib.hid (show Cur wa c A len cap z by rw [hwa]; exact Hc.out)
    have Hoa := Lib.hid (show OwnS wa w2.heap.size f4 [y0, y1, y2, y3, y4, y5] (row t) F by rw [hwa]; exact Ho.out.below (Below.refl _ _).drew)
    have Hga := Lib.hid (show w2.grownBy wa (some c) by rw [hwa]; exact grown_below Hg.out ((Below.refl _ _).drew))
    clear Hm Hc Ho Hg
    go_upto_region 9 with fail
    refine wp_region_any (by kernel_rfl) ?_
    change wpAny _ _ _ _ _ _ _ (World.drew w5)
    rw [← hwa]
    clear hwa
    obtain ⟨p0, p1, p2, p3, p4, p5⟩ := Row6.of Hma.out
    refine wpAny_take (i := 1) (v := ?_) rfl (by kernel_rfl) (by kernel_rfl) (by kernel_rfl) (fun _ _ _ h => h) (Or.inl ⟨by rfl, ?_⟩) ?_
    rotate_left
    · intro w'
      go_simp
      try with_reducible rfl
    try simp only [Act.put, List.setIfInBounds_toArray, List.set_cons_zero, List.set_cons_succ, List.getElem_toArray, List.getElem_cons_zero, List.getElem_cons_succ]
    refine wpAny_take (i := 3) (v := ?_) rfl (by kernel_rfl) (by kernel_rfl) (by kernel_rfl) (fun _ _ _ h => h) (Or.inl ⟨by rfl, ?_⟩) ?_
    rotate_left
    · intro w'
      go_simp
      try with_reducible rfl
    try simp only [Act.put, List.setIfInBounds_toArray, List.set_cons_zero, List.set_cons_succ, List.getElem_toArray, List.getElem_cons_zero, List.getElem_cons_succ]
    refine wpAny_ready (rs := [0, 2]) (by kernel_rfl) (by simp) ?_
    refine AllReady.cons rfl (fun K hK => ?_) ?_
    · go_simp
      (refine hK _ _ ?_; clear hK K)
      try simp only [Act.put, List.setIfInBounds_toArray, List.set_cons_zero, List.set_cons_succ, List.getElem_toArray, List.getElem_cons_zero, List.getElem_cons_succ]
      refine wpAny_ready (rs := [2]) (by kernel_rfl) (by simp) ?_
      refine AllReady.cons rfl (fun K hK => ?_) ?_
      · go_simp
        go_at_call 17
        refine (HWd.out _ Hca.out).mono ?_
        rintro e w6 ⟨key, hkey, rfl, hc6, hg6⟩
        have Hc6 := Lib.hid hc6
        have Hg6 := Lib.hid hg6
        have Hkey := Lib.hid hkey.1
        have Hm6 := Lib.hid (kept_block hg6 hcm Hma.out)
        clear hkey
        obtain ⟨p0, p1, p2, p3, p4, p5⟩ := Row6.of Hm6.out
        (refine hK _ _ ?_; clear hK K)
        try simp only [Act.put, List.setIfInBounds_toArray, List.set_cons_zero, List.set_cons_succ, List.getElem_toArray, List.getElem_cons_zero, List.getElem_cons_succ]
        refine wpAny_ready (rs := [4]) (by kernel_rfl) (by simp) ?_
        refine AllReady.cons rfl (fun K hK => ?_) ?_
        · go_simp
          go_at_call 13
          refine (HAn.out _ Hc6.out).mono ?_
          rintro e w7 ⟨kid, vs7, f7, G, hwk, rfl, ho7, hn7, hc7, hg7⟩
          obtain ⟨x0, x1, x2, x3, x4, x5, rfl⟩ := six_of (ho7.1.trans (row_length _))
          have hone7 := ho7.one
          have Hm7 := Lib.hid (kept_block hg7 hcm Hm6.out)
          have Hg7 := Lib.hid (grown_trans (grown_trans Hga.out Hg6.out) hg7)
          have Ho7 := Lib.hid (ho7.lower (Nat.le_trans Hga.out.size Hg6.out.size))
          have Hta := Lib.hid (owns_drew (owns_drew Hoa.out Hg6.out Hcw.out) hg7 Hcw.out)
          have Hwk := Lib.hid hwk
          have hr2 := kept_lowc Hg7.out Hc2lo.out (by omega) Hr2.out
          have hr4 := kept_lowc Hg7.out Hc2lo.out (by omega) Hr4.out
          have Hr27 := Lib.hid hr2
          have Hr47 := Lib.hid hr4
          clear hc7 hg7 ho7 hwk
          obtain ⟨p0, p1, p2, p3, p4, p5⟩ := Row6.of Hm7.out
          (refine hK _ _ ?_; clear hK K)
          try simp only [Act.put, List.setIfInBounds_toArray, List.set_cons_zero, List.set_cons_succ, List.getElem_toArray, List.getElem_cons_zero, List.getElem_cons_succ]
          refine wpAny_ready (rs := [5]) (by kernel_rfl) (by simp) ?_
          refine AllReady.cons rfl (fun K hK => ?_) ?_
          · refine step_store_row rfl 27 _ _ rfl w.heap.size #[y0, y1, y2, y3, y4, y5] rfl rfl 27 _ hr2 tree_size' rfl hone4 ?_
            (refine hK _ _ ?_; clear hK K)
            try simp only [Act.put, List.getElem_toArray, List.getElem_cons_zero, List.getElem_cons_succ]
            refine wpAny_take (i := 6) (v := ?_) rfl (by kernel_rfl) (by kernel_rfl) (by kernel_rfl) (fun _ _ _ h => h) (Or.inl ⟨by rfl, ?_⟩) ?_
            rotate_left
            · intro w'
              go_simp
              try with_reducible rfl
            try simp only [Act.put, List.setIfInBounds_toArray, List.set_cons_zero, List.set_cons_succ, List.getElem_toArray, List.getElem_cons_zero, List.getElem_cons_succ]
            refine wpAny_ready (rs := [7]) (by kernel_rfl) (by simp) ?_
            refine AllReady.cons rfl (fun K hK => ?_) ?_
            · refine step_store_row rfl 27 _ _ rfl (w.heap.size + 1) #[x0, x1, x2, x3, x4, x5] rfl rfl 27 _ ((row_other (by omega)).trans hr4) tree_size' rfl hone7 ?_
              (refine hK _ _ ?_; clear hK K)
              try simp only [Act.put, List.getElem_toArray, List.getElem_cons_zero, List.getElem_cons_succ]
              refine wpAny_done (by kernel_rfl) ?_ _
              go_wp2_with fail
              refine bodyPost_ret (v := .tuple #[.agg #[y0, y1, y2, y3, y4, y5], .string key, .agg #[x0, x1, x2, x3, x4, x5]]) ?_ rfl (drawn_of Hb2.out Hclo.out Hg7.out Hwt.out Hkey.out Hwk.out Hlo2.out Hta.out Hnd.out Ho7.out (setRow_below (setRow_below (Below.refl _ _) (Nat.le_refl _) _) (Nat.le_succ _) _) (fun x hx => (row_other (by omega)).trans (row_other (by omega))))
              exact ret_three rfl rfl rfl rfl rfl rfl ((row_other (by omega)).trans (setRow_at Hr27.out)) (setRow_at ((row_other (by omega)).trans Hr47.out))
            exact AllReady.nil
          exact AllReady.nil
        exact AllReady.nil
      exact AllReady.nil
    refine AllReady.cons rfl (fun K hK => ?_) ?_
    · go_simp
      go_at_call 17
      refine (HWd.out _ Hca.out).mono ?_
      rintro e w6 ⟨key, hkey, rfl, hc6, hg6⟩
      have Hc6 := Lib.hid hc6
      have Hg6 := Lib.hid hg6
      have Hkey := Lib.hid hkey.1
      have Hm6 := Lib.hid (kept_block hg6 hcm Hma.out)
      clear hkey
      obtain ⟨p0, p1, p2, p3, p4, p5⟩ := Row6.of Hm6.out
      (refine hK _ _ ?_; clear hK K)
      try simp only [Act.put, List.setIfInBounds_toArray, List.set_cons_zero, List.set_cons_succ, List.getElem_toArray, List.getElem_cons_zero, List.getElem_cons_succ]
      refine wpAny_ready (rs := [0, 4]) (by kernel_rfl) (by simp) ?_
      refine AllReady.cons rfl (fun K hK => ?_) ?_
      · go_simp
        (refine hK _ _ ?_; clear hK K)
        try simp only [Act.put, List.setIfInBounds_toArray, List.set_cons_zero, List.set_cons_succ, List.getElem_toArray, List.getElem_cons_zero, List.getElem_cons_succ]
        refine wpAny_ready (rs := [4]) (by kernel_rfl) (by simp) ?_
        refine AllReady.cons rfl (fun K hK => ?_) ?_
        · go_simp
          go_at_call 13
          refine (HAn.out _ Hc6.out).mono ?_
          rintro e w7 ⟨kid, vs7, f7, G, hwk, rfl, ho7, hn7, hc7, hg7⟩
          obtain ⟨x0, x1, x2, x3, x4, x5, rfl⟩ := six_of (ho7.1.trans (row_length _))
          have hone7 := ho7.one
          have Hm7 := Lib.hid (kept_block hg7 hcm Hm6.out)
          have Hg7 := Lib.hid (grown_trans (grown_trans Hga.out Hg6.out) hg7)
          have Ho7 := Lib.hid (ho7.lower (Nat.le_trans Hga.out.size Hg6.out.size))
          have Hta := Lib.hid (owns_drew (owns_drew Hoa.out Hg6.out Hcw.out) hg7 Hcw.out)
          have Hwk := Lib.hid hwk
          have hr2 := kept_lowc Hg7.out Hc2lo.out (by omega) Hr2.out
          have hr4 := kept_lowc Hg7.out Hc2lo.out (by omega) Hr4.out
          have Hr27 := Lib.hid hr2
          have Hr47 := Lib.hid hr4
          clear hc7 hg7 ho7 hwk
          obtain ⟨p0, p1, p2, p3, p4, p5⟩ := Row6.of Hm7.out
          (refine hK _ _ ?_; clear hK K)
          try simp only [Act.put, List.setIfInBounds_toArray, List.set_cons_zero, List.set_cons_succ, List.getElem_toArray, List.getElem_cons_zero, List.getElem_cons_succ]
          refine wpAny_ready (rs := [5]) (by kernel_rfl) (by simp) ?_
          refine AllReady.cons rfl (fun K hK => ?_) ?_
          · refine step_store_row rfl 27 _ _ rfl w.heap.size #[y0, y1, y2, y3, y4, y5] rfl rfl 27 _ hr2 tree_size' rfl hone4 ?_
            (refine hK _ _ ?_; clear hK K)
            try simp only [Act.put, List.getElem_toArray, List.getElem_cons_zero, List.getElem_cons_succ]
            refine wpAny_take (i := 6) (v := ?_) rfl (by kernel_rfl) (by kernel_rfl) (by kernel_rfl) (fun _ _ _ h => h) (Or.inl ⟨by rfl, ?_⟩) ?_
            rotate_left
            · intro w'
              go_simp
              try with_reducible rfl
            try simp only [Act.put, List.setIfInBounds_toArray, List.set_cons_zero, List.set_cons_succ, List.getElem_toArray, List.getElem_cons_zero, List.getElem_cons_succ]
            refine wpAny_ready (rs := [7]) (by kernel_rfl) (by simp) ?_
            refine AllReady.cons rfl (fun K hK => ?_) ?_
            · refine step_store_row rfl 27 _ _ rfl (w.heap.size + 1) #[x0, x1, x2, x3, x4, x5] rfl rfl 27 _ ((row_other (by omega)).trans hr4) tree_size' rfl hone7 ?_
              (refine hK _ _ ?_; clear hK K)
              try simp only [Act.put, List.getElem_toArray, List.getElem_cons_zero, List.getElem_cons_succ]
              refine wpAny_done (by kernel_rfl) ?_ _
              go_wp2_with fail
              refine bodyPost_ret (v := .tuple #[.agg #[y0, y1, y2, y3, y4, y5], .string key, .agg #[x0, x1, x2, x3, x4, x5]]) ?_ rfl (drawn_of Hb2.out Hclo.out Hg7.out Hwt.out Hkey.out Hwk.out Hlo2.out Hta.out Hnd.out Ho7.out (setRow_below (setRow_below (Below.refl _ _) (Nat.le_refl _) _) (Nat.le_succ _) _) (fun x hx => (row_other (by omega)).trans (row_other (by omega))))
              exact ret_three rfl rfl rfl rfl rfl rfl ((row_other (by omega)).trans (setRow_at Hr27.out)) (setRow_at ((row_other (by omega)).trans Hr47.out))
            exact AllReady.nil
          exact AllReady.nil
        exact AllReady.nil
      refine AllReady.cons rfl (fun K hK => ?_) ?_
      · go_simp
        go_at_call 13
        refine (HAn.out _ Hc6.out).mono ?_
        rintro e w7 ⟨kid, vs7, f7, G, hwk, rfl, ho7, hn7, hc7, hg7⟩
        obtain ⟨x0, x1, x2, x3, x4, x5, rfl⟩ := six_of (ho7.1.trans (row_length _))
        have hone7 := ho7.one
        have Hm7 := Lib.hid (kept_block hg7 hcm Hm6.out)
        have Hg7 := Lib.hid (grown_trans (grown_trans Hga.out Hg6.out) hg7)
        have Ho7 := Lib.hid (ho7.lower (Nat.le_trans Hga.out.size Hg6.out.size))
        have Hta := Lib.hid (owns_drew (owns_drew Hoa.out Hg6.out Hcw.out) hg7 Hcw.out)
        have Hwk := Lib.hid hwk
        have hr2 := kept_lowc Hg7.out Hc2lo.out (by omega) Hr2.out
        have hr4 := kept_lowc Hg7.out Hc2lo.out (by omega) Hr4.out
        have Hr27 := Lib.hid hr2
        have Hr47 := Lib.hid hr4
        clear hc7 hg7 ho7 hwk
        obtain ⟨p0, p1, p2, p3, p4, p5⟩ := Row6.of Hm7.out
        (refine hK _ _ ?_; clear hK K)
        try simp only [Act.put, List.setIfInBounds_toArray, List.set_cons_zero, List.set_cons_succ, List.getElem_toArray, List.getElem_cons_zero, List.getElem_cons_succ]
        refine wpAny_ready (rs := [0]) (by kernel_rfl) (by simp) ?_
        refine AllReady.cons rfl (fun K hK => ?_) ?_
        · go_simp
          (refine hK _ _ ?_; clear hK K)
          try simp only [Act.put, List.setIfInBounds_toArray, List.set_cons_zero, List.set_cons_succ, List.getElem_toArray, List.getElem_cons_zero, List.getElem_cons_succ]
          refine wpAny_ready (rs := [5]) (by kernel_rfl) (by simp) ?_
          refine AllReady.cons rfl (fun K hK => ?_) ?_
          · refine step_store_row rfl 27 _ _ rfl w.heap.size #[y0, y1, y2, y3, y4, y5] rfl rfl 27 _ hr2 tree_size' rfl hone4 ?_
            (refine hK _ _ ?_; clear hK K)
            try simp only [Act.put, List.getElem_toArray, List.getElem_cons_zero, List.getElem_cons_succ]
            refine wpAny_take (i := 6) (v := ?_) rfl (by kernel_rfl) (by kernel_rfl) (by kernel_rfl) (fun _ _ _ h => h) (Or.inl ⟨by rfl, ?_⟩) ?_
            rotate_left
            · intro w'
              go_simp
              try with_reducible rfl
            try simp only [Act.put, List.setIfInBounds_toArray, List.set_cons_zero, List.set_cons_succ, List.getElem_toArray, List.getElem_cons_zero, List.getElem_cons_succ]
            refine wpAny_ready (rs := [7]) (by kernel_rfl) (by simp) ?_
            refine AllReady.cons rfl (fun K hK => ?_) ?_
            · refine step_store_row rfl 27 _ _ rfl (w.heap.size + 1) #[x0, x1, x2, x3, x4, x5] rfl rfl 27 _ ((row_other (by omega)).trans hr4) tree_size' rfl hone7 ?_
              (refine hK _ _ ?_; clear hK K)
              try simp only [Act.put, List.getElem_toArray, List.getElem_cons_zero, List.getElem_cons_succ]
              refine wpAny_done (by kernel_rfl) ?_ _
              go_wp2_with fail
              refine bodyPost_ret (v := .tuple #[.agg #[y0, y1, y2, y3, y4, y5], .string key, .agg #[x0, x1, x2, x3, x4, x5]]) ?_ rfl (drawn_of Hb2.out Hclo.out Hg7.out Hwt.out Hkey.out Hwk.out Hlo2.out Hta.out Hnd.out Ho7.out (setRow_below (setRow_below (Below.refl _ _) (Nat.le_refl _) _) (Nat.le_succ _) _) (fun x hx => (row_other (by omega)).trans (row_other (by omega))))
              exact ret_three rfl rfl rfl rfl rfl rfl ((row_other (by omega)).trans (setRow_at Hr27.out)) (setRow_at ((row_other (by omega)).trans Hr47.out))
            exact AllReady.nil
          exact AllReady.nil
        exact AllReady.nil
      exact AllReady.nil
    exact AllReady.nil
  | true =>
    have hm := Hm.out
    have hone6 : (#[.int .i64 6, .bool false, .int .i64 0, .string ⟨#[]⟩, .slice none 0 0, .slice none 0 0] : Array Value).all (·.oneCell') = true := by simp [Value.oneCell']
    have hb56 : Below g w5 (w5.setRow g #[.int .i64 6, .bool false, .int .i64 0, .string ⟨#[]⟩, .slice none 0 0, .slice none 0 0]) := setRow_below (Below.refl g w5) (Nat.le_refl _) _
    have Hst := Lib.hid (show MapQ 0 c A len cap z w2 g 0 (w5.setRow g #[.int .i64 6, .bool false, .int .i64 0, .string ⟨#[]⟩, .slice none 0 0, .slice none 0 0]) from ⟨_, [.int .i64 6, .bool false, .int .i64 0, .string ⟨#[]⟩, .slice none 0 0, .slice none 0 0], 1, [], MapGood.start 0, setRow_at hm, own_leaf 0 (wf_small (by decide) (by decide)) (wf_small (by decide) (by decide)) (by decide), List.nodup_nil, Hc.out.below hb56 hcm, grown_below Hg.out (hb56.mono hgw), hgw⟩)
    clear hb56 Hm Ho Hc Hg Hwt Hnd hone4
    go_wp2_with (first | (refine wpList_store_row rfl 27 _ _ rfl g #[.int .i64 6, .bool false, .int .i64 0, .string ⟨#[]⟩, .slice none 0 0, .slice none 0 0] rfl rfl 27 _ hm tree_size' rfl hone6 ?_) | fail)
    go_loopg [7] 3 (fun gk s7 wr => ∃ (j : Nat), j ≤ 3 ∧ gk = 3 - j ∧ s7 = .int .i64 j ∧ Hid (MapQ 0 c A len cap z w2 g j wr))
    case atStart => exact ⟨0, by omega, rfl, rfl, Hst⟩
    case round =>
      clear Hst hm hone6
      obtain ⟨j, hj, rfl, rfl, hst⟩ := hrel
      have hcr : Cur wr c A len cap z := by obtain ⟨_, _, _, _, _, _, _, _, h, _⟩ := hst.out; exact h
      have HB := Lib.hid (below_any c A len cap z 4 wr hcr (by decide) (by decide))
      clear hcr
      go_wp2_with fail
      refine HB.out.mono ?_
      rintro e w4 ⟨x, hx, rfl, hc4, hg4⟩
      obtain ⟨t, us, f4, F, mg, hm4, ho4, hn4, hst4c, hg4', hlo4⟩ := hst.out.drew Hcw.out hc4 hg4
      obtain ⟨y0, y1, y2, y3, y4, y5, rfl⟩ := six_of (ho4.1.trans (row_length _))
      clear HB hst hc4 hg4
      by_cases hlt : (j : Int) < x
      · have hj4 : j + 1 ≤ 3 := by omega
        have hwj : (Lit.int .i64 (j : Int)).wf = true := by
          have e1 : IntKind.i64.min = -9223372036854775808 := rfl
          have e2 : IntKind.i64.max = 9223372036854775807 := rfl
          simp [Lit.wf, e1, e2]
          omega
        have HWd := Lib.hid (fun w' (h : Cur w' c A len cap z) => word_any c A len cap z w' h)
        have HTd := Lib.hid (fun w' => spec_int (j : Int) w' hwj)
        have hgood : Good 0 (intT (j : Int)) := Good.leaf (fit_leaf (by decide) (by decide) (by simp) (by simp) (by simp [ByteArray.size])) empty_word (by omega)
        have Hgood := Lib.hid hgood
        obtain ⟨wd, hwd⟩ : ∃ wd, wd = w4.drew := ⟨_, rfl⟩
        have Hm4 := Lib.hid (show wd.heap[g]? = some (.cells #[y0, y1, y2, y3, y4, y5] 27 (0, 0)) by rw [hwd]; exact hm4)
        have Hc4 := Lib.hid (show Cur wd c A len cap z by rw [hwd]; exact hst4c)
        have Ho4 := Lib.hid (show OwnS wd (g + 1) f4 [y0, y1, y2, y3, y4, y5] (row t) F by rw [hwd]; exact ho4.below (Below.refl _ _).drew)
        have Hg4 := Lib.hid (show w2.grownBy wd (some c) by rw [hwd]; exact grown_below hg4' (Below.refl _ _).drew)
        have Hmg := Lib.hid mg
        clear hm4 hst4c ho4 hg4' hgood hwj
        go_upto_region 8 with fail
        refine wp_region_any (by kernel_rfl) ?_
        change wpAny _ _ _ _ _ _ _ (World.drew w4)
        rw [← hwd]
        clear hwd
        obtain ⟨p0, p1, p2, p3, p4, p5⟩ := Row6.of Hm4.out
        refine wpAny_take (i := 1) (v := ?_) rfl (by kernel_rfl) (by kernel_rfl) (by kernel_rfl) (fun _ _ _ h => h) (Or.inl ⟨by rfl, ?_⟩) ?_
        rotate_left
        · intro w'
          go_simp
          try with_reducible rfl
        try simp only [Act.put, List.setIfInBounds_toArray, List.set_cons_zero, List.set_cons_succ, List.getElem_toArray, List.getElem_cons_zero, List.getElem_cons_succ]
        refine wpAny_take (i := 3) (v := ?_) rfl (by kernel_rfl) (by kernel_rfl) (by kernel_rfl) (fun _ _ _ h => h) (Or.inl ⟨by rfl, ?_⟩) ?_
        rotate_left
        · intro w'
          go_simp
          try with_reducible rfl
        try simp only [Act.put, List.setIfInBounds_toArray, List.set_cons_zero, List.set_cons_succ, List.getElem_toArray, List.getElem_cons_zero, List.getElem_cons_succ]
        refine wpAny_ready (rs := [0, 2]) (by kernel_rfl) (by simp) ?_
        refine AllReady.cons rfl (fun K hK => ?_) ?_
        · go_simp
          (refine hK _ _ ?_; clear hK K)
          try simp only [Act.put, List.setIfInBounds_toArray, List.set_cons_zero, List.set_cons_succ, List.getElem_toArray, List.getElem_cons_zero, List.getElem_cons_succ]
          refine wpAny_ready (rs := [2]) (by kernel_rfl) (by simp) ?_
          refine AllReady.cons rfl (fun K hK => ?_) ?_
          · go_simp
            go_at_call 17
            refine (HWd.out _ Hc4.out).mono ?_
            rintro e w5 ⟨key, hkey, rfl, hc5, hg5⟩
            have Hc5 := Lib.hid hc5
            have Hg5 := Lib.hid hg5
            have Hkey := Lib.hid (show WordOk key from hkey)
            have Hm5 := Lib.hid (kept_block hg5 hcm Hm4.out)
            clear hc5 hg5 hkey
            obtain ⟨p0, p1, p2, p3, p4, p5⟩ := Row6.of Hm5.out
            (refine hK _ _ ?_; clear hK K)
            try simp only [Act.put, List.setIfInBounds_toArray, List.set_cons_zero, List.set_cons_succ, List.getElem_toArray, List.getElem_cons_zero, List.getElem_cons_succ]
            refine wpAny_ready (rs := [4]) (by kernel_rfl) (by simp) ?_
            refine AllReady.cons rfl (fun K hK => ?_) ?_
            · go_simp
              go_at_call 18
              refine (HTd.out w5).mono ?_
              rintro e w6 ⟨⟨f6, kv, F6, rfl, ho6, hn6⟩, hb6⟩
              obtain ⟨k0, k1, k2, k3, k4, k5, rfl⟩ := six_of (ho6.1.trans (row_length _))
              have Hc6 := Lib.hid (Hc5.out.below hb6 Hc5.out.lt)
              have Hg6 := Lib.hid (grown_of_below hb6 (some c))
              have Ho6 := Lib.hid ho6
              have Hm6 := Lib.hid (heap_kept hb6 (heap_lt Hm5.out) Hm5.out)
              clear ho6 hb6
              obtain ⟨p0, p1, p2, p3, p4, p5⟩ := Row6.of Hm6.out
              (refine hK _ _ ?_; clear hK K)
              try simp only [Act.put, List.setIfInBounds_toArray, List.set_cons_zero, List.set_cons_succ, List.getElem_toArray, List.getElem_cons_zero, List.getElem_cons_succ]
              refine wpAny_ready (rs := [5]) (by kernel_rfl) (by simp) ?_
              refine AllReady.cons rfl (fun K hK => ?_) ?_
              · go_simp
                go_at_call 16
                refine (spec_put (f := max f4 f6) t key (intT (j : Int)) [y0, y1, y2, y3, y4, y5] [k0, k1, k2, k3, k4, k5] w6 (((owns_drew (owns_drew Ho4.out Hg5.out (by omega)) Hg6.out (by omega)).lies).deeper (Nat.le_max_left _ _)) ((Ho6.out.lies).deeper (Nat.le_max_right _ _)) (Nat.le_trans Hkey.out.1 (show 28 ≤ maxLen by decide)) (Nat.le_trans ((Hmg.out.good (by omega)).light (by omega)) (by omega)) (Nat.le_trans (Hgood.out.light (by omega)) (by omega))).mono ?_
                rintro e w8 ⟨⟨us8, F8, rfl, ho8, hn8⟩, hb8⟩
                obtain ⟨x0, x1, x2, x3, x4, x5, rfl⟩ := six_of (ho8.1.trans (row_length _))
                have Hm8 := Lib.hid (heap_kept hb8 (heap_lt Hm6.out) Hm6.out)
                have Ho8 := Lib.hid ho8
                have Hb8 := Lib.hid hb8
                have hone8 := ho8.one
                clear ho8 hb8
                (refine hK _ _ ?_; clear hK K)
                try simp only [Act.put, List.setIfInBounds_toArray, List.set_cons_zero, List.set_cons_succ, List.getElem_toArray, List.getElem_cons_zero, List.getElem_cons_succ]
                refine wpAny_take (i := 6) (v := ?_) rfl (by kernel_rfl) (by kernel_rfl) (by kernel_rfl) (fun _ _ _ h => h) (Or.inl ⟨by rfl, ?_⟩) ?_
                rotate_left
                · intro w'
                  go_simp
                  try with_reducible rfl
                try simp only [Act.put, List.setIfInBounds_toArray, List.set_cons_zero, List.set_cons_succ, List.getElem_toArray, List.getElem_cons_zero, List.getElem_cons_succ]
                refine wpAny_take (i := 7) (v := ?_) rfl (by kernel_rfl) (by kernel_rfl) (by kernel_rfl) (fun _ _ _ h => h) (Or.inl ⟨by rfl, ?_⟩) ?_
                rotate_left
                · intro w'
                  go_simp
                  try with_reducible rfl
                try simp only [Act.put, List.setIfInBounds_toArray, List.set_cons_zero, List.set_cons_succ, List.getElem_toArray, List.getElem_cons_zero, List.getElem_cons_succ]
                refine wpAny_take (i := 8) (v := ?_) rfl (by kernel_rfl) (by kernel_rfl) (by kernel_rfl) (fun _ _ _ h => h) (Or.inl ⟨by rfl, ?_⟩) ?_
                rotate_left
                · intro w'
                  go_simp
                  try with_reducible rfl
                try simp only [Act.put, List.setIfInBounds_toArray, List.set_cons_zero, List.set_cons_succ, List.getElem_toArray, List.getElem_cons_zero, List.getElem_cons_succ]
                refine wpAny_ready (rs := [9]) (by kernel_rfl) (by simp) ?_
                refine AllReady.cons rfl (fun K hK => ?_) ?_
                · refine step_store_row rfl 27 _ _ rfl g #[x0, x1, x2, x3, x4, x5] rfl rfl 27 _ Hm8.out tree_size' rfl hone8 ?_
                  (refine hK _ _ ?_; clear hK K)
                  try simp only [Act.put, List.getElem_toArray, List.getElem_cons_zero, List.getElem_cons_succ]
                  refine wpAny_done (by kernel_rfl) ?_ _
                  have Hnext := Lib.hid (MapQ.put Hcw.out hgw Hmg.out Hkey.out Hgood.out Hm8.out (Ho8.out.lower (heap_lt Hm6.out)) hn8 (Hc6.out.below Hb8.out Hc6.out.lt) (grown_below (grown_trans (grown_trans Hg4.out Hg5.out) Hg6.out) (Hb8.out.mono (Nat.le_trans Hg4.out.size (Nat.le_trans Hg5.out.size Hg6.out.size)))))
                  go_wp2_with fail
                  go_roundg (3 - (j + 1))
                  case measure => omega
                  case rel => exact ⟨j + 1, hj4, rfl, by go_num, Hnext⟩
                exact AllReady.nil
              exact AllReady.nil
            exact AllReady.nil
          exact AllReady.nil
        refine AllReady.cons rfl (fun K hK => ?_) ?_
        · go_simp
          go_at_call 17
          refine (HWd.out _ Hc4.out).mono ?_
          rintro e w5 ⟨key, hkey, rfl, hc5, hg5⟩
          have Hc5 := Lib.hid hc5
          have Hg5 := Lib.hid hg5
          have Hkey := Lib.hid (show WordOk key from hkey)
          have Hm5 := Lib.hid (kept_block hg5 hcm Hm4.out)
          clear hc5 hg5 hkey
          obtain ⟨p0, p1, p2, p3, p4, p5⟩ := Row6.of Hm5.out
          (refine hK _ _ ?_; clear hK K)
          try simp only [Act.put, List.setIfInBounds_toArray, List.set_cons_zero, List.set_cons_succ, List.getElem_toArray, List.getElem_cons_zero, List.getElem_cons_succ]
          refine wpAny_ready (rs := [0, 4]) (by kernel_rfl) (by simp) ?_
          refine AllReady.cons rfl (fun K hK => ?_) ?_
          · go_simp
            (refine hK _ _ ?_; clear hK K)
            try simp only [Act.put, List.setIfInBounds_toArray, List.set_cons_zero, List.set_cons_succ, List.getElem_toArray, List.getElem_cons_zero, List.getElem_cons_succ]
            refine wpAny_ready (rs := [4]) (by kernel_rfl) (by simp) ?_
            refine AllReady.cons rfl (fun K hK => ?_) ?_
            · go_simp
              go_at_call 18
              refine (HTd.out w5).mono ?_
              rintro e w6 ⟨⟨f6, kv, F6, rfl, ho6, hn6⟩, hb6⟩
              obtain ⟨k0, k1, k2, k3, k4, k5, rfl⟩ := six_of (ho6.1.trans (row_length _))
              have Hc6 := Lib.hid (Hc5.out.below hb6 Hc5.out.lt)
              have Hg6 := Lib.hid (grown_of_below hb6 (some c))
              have Ho6 := Lib.hid ho6
              have Hm6 := Lib.hid (heap_kept hb6 (heap_lt Hm5.out) Hm5.out)
              clear ho6 hb6
              obtain ⟨p0, p1, p2, p3, p4, p5⟩ := Row6.of Hm6.out
              (refine hK _ _ ?_; clear hK K)
              try simp only [Act.put, List.setIfInBounds_toArray, List.set_cons_zero, List.set_cons_succ, List.getElem_toArray, List.getElem_cons_zero, List.getElem_cons_succ]
              refine wpAny_ready (rs := [5]) (by kernel_rfl) (by simp) ?_
              refine AllReady.cons rfl (fun K hK => ?_) ?_
              · go_simp
                go_at_call 16
                refine (spec_put (f := max f4 f6) t key (intT (j : Int)) [y0, y1, y2, y3, y4, y5] [k0, k1, k2, k3, k4, k5] w6 (((owns_drew (owns_drew Ho4.out Hg5.out (by omega)) Hg6.out (by omega)).lies).deeper (Nat.le_max_left _ _)) ((Ho6.out.lies).deeper (Nat.le_max_right _ _)) (Nat.le_trans Hkey.out.1 (show 28 ≤ maxLen by decide)) (Nat.le_trans ((Hmg.out.good (by omega)).light (by omega)) (by omega)) (Nat.le_trans (Hgood.out.light (by omega)) (by omega))).mono ?_
                rintro e w8 ⟨⟨us8, F8, rfl, ho8, hn8⟩, hb8⟩
                obtain ⟨x0, x1, x2, x3, x4, x5, rfl⟩ := six_of (ho8.1.trans (row_length _))
                have Hm8 := Lib.hid (heap_kept hb8 (heap_lt Hm6.out) Hm6.out)
                have Ho8 := Lib.hid ho8
                have Hb8 := Lib.hid hb8
                have hone8 := ho8.one
                clear ho8 hb8
                (refine hK _ _ ?_; clear hK K)
                try simp only [Act.put, List.setIfInBounds_toArray, List.set_cons_zero, List.set_cons_succ, List.getElem_toArray, List.getElem_cons_zero, List.getElem_cons_succ]
                refine wpAny_take (i := 6) (v := ?_) rfl (by kernel_rfl) (by kernel_rfl) (by kernel_rfl) (fun _ _ _ h => h) (Or.inl ⟨by rfl, ?_⟩) ?_
                rotate_left
                · intro w'
                  go_simp
                  try with_reducible rfl
                try simp only [Act.put, List.setIfInBounds_toArray, List.set_cons_zero, List.set_cons_succ, List.getElem_toArray, List.getElem_cons_zero, List.getElem_cons_succ]
                refine wpAny_take (i := 7) (v := ?_) rfl (by kernel_rfl) (by kernel_rfl) (by kernel_rfl) (fun _ _ _ h => h) (Or.inl ⟨by rfl, ?_⟩) ?_
                rotate_left
                · intro w'
                  go_simp
                  try with_reducible rfl
                try simp only [Act.put, List.setIfInBounds_toArray, List.set_cons_zero, List.set_cons_succ, List.getElem_toArray, List.getElem_cons_zero, List.getElem_cons_succ]
                refine wpAny_take (i := 8) (v := ?_) rfl (by kernel_rfl) (by kernel_rfl) (by kernel_rfl) (fun _ _ _ h => h) (Or.inl ⟨by rfl, ?_⟩) ?_
                rotate_left
                · intro w'
                  go_simp
                  try with_reducible rfl
                try simp only [Act.put, List.setIfInBounds_toArray, List.set_cons_zero, List.set_cons_succ, List.getElem_toArray, List.getElem_cons_zero, List.getElem_cons_succ]
                refine wpAny_ready (rs := [9]) (by kernel_rfl) (by simp) ?_
                refine AllReady.cons rfl (fun K hK => ?_) ?_
                · refine step_store_row rfl 27 _ _ rfl g #[x0, x1, x2, x3, x4, x5] rfl rfl 27 _ Hm8.out tree_size' rfl hone8 ?_
                  (refine hK _ _ ?_; clear hK K)
                  try simp only [Act.put, List.getElem_toArray, List.getElem_cons_zero, List.getElem_cons_succ]
                  refine wpAny_done (by kernel_rfl) ?_ _
                  have Hnext := Lib.hid (MapQ.put Hcw.out hgw Hmg.out Hkey.out Hgood.out Hm8.out (Ho8.out.lower (heap_lt Hm6.out)) hn8 (Hc6.out.below Hb8.out Hc6.out.lt) (grown_below (grown_trans (grown_trans Hg4.out Hg5.out) Hg6.out) (Hb8.out.mono (Nat.le_trans Hg4.out.size (Nat.le_trans Hg5.out.size Hg6.out.size)))))
                  go_wp2_with fail
                  go_roundg (3 - (j + 1))
                  case measure => omega
                  case rel => exact ⟨j + 1, hj4, rfl, by go_num, Hnext⟩
                exact AllReady.nil
              exact AllReady.nil
            exact AllReady.nil
          refine AllReady.cons rfl (fun K hK => ?_) ?_
          · go_simp
            go_at_call 18
            refine (HTd.out w5).mono ?_
            rintro e w6 ⟨⟨f6, kv, F6, rfl, ho6, hn6⟩, hb6⟩
            obtain ⟨k0, k1, k2, k3, k4, k5, rfl⟩ := six_of (ho6.1.trans (row_length _))
            have Hc6 := Lib.hid (Hc5.out.below hb6 Hc5.out.lt)
            have Hg6 := Lib.hid (grown_of_below hb6 (some c))
            have Ho6 := Lib.hid ho6
            have Hm6 := Lib.hid (heap_kept hb6 (heap_lt Hm5.out) Hm5.out)
            clear ho6 hb6
            obtain ⟨p0, p1, p2, p3, p4, p5⟩ := Row6.of Hm6.out
            (refine hK _ _ ?_; clear hK K)
            try simp only [Act.put, List.setIfInBounds_toArray, List.set_cons_zero, List.set_cons_succ, List.getElem_toArray, List.getElem_cons_zero, List.getElem_cons_succ]
            refine wpAny_ready (rs := [0]) (by kernel_rfl) (by simp) ?_
            refine AllReady.cons rfl (fun K hK => ?_) ?_
            · go_simp
              (refine hK _ _ ?_; clear hK K)
              try simp only [Act.put, List.setIfInBounds_toArray, List.set_cons_zero, List.set_cons_succ, List.getElem_toArray, List.getElem_cons_zero, List.getElem_cons_succ]
              refine wpAny_ready (rs := [5]) (by kernel_rfl) (by simp) ?_
              refine AllReady.cons rfl (fun K hK => ?_) ?_
              · go_simp
                go_at_call 16
                refine (spec_put (f := max f4 f6) t key (intT (j : Int)) [y0, y1, y2, y3, y4, y5] [k0, k1, k2, k3, k4, k5] w6 (((owns_drew (owns_drew Ho4.out Hg5.out (by omega)) Hg6.out (by omega)).lies).deeper (Nat.le_max_left _ _)) ((Ho6.out.lies).deeper (Nat.le_max_right _ _)) (Nat.le_trans Hkey.out.1 (show 28 ≤ maxLen by decide)) (Nat.le_trans ((Hmg.out.good (by omega)).light (by omega)) (by omega)) (Nat.le_trans (Hgood.out.light (by omega)) (by omega))).mono ?_
                rintro e w8 ⟨⟨us8, F8, rfl, ho8, hn8⟩, hb8⟩
                obtain ⟨x0, x1, x2, x3, x4, x5, rfl⟩ := six_of (ho8.1.trans (row_length _))
                have Hm8 := Lib.hid (heap_kept hb8 (heap_lt Hm6.out) Hm6.out)
                have Ho8 := Lib.hid ho8
                have Hb8 := Lib.hid hb8
                have hone8 := ho8.one
                clear ho8 hb8
                (refine hK _ _ ?_; clear hK K)
                try simp only [Act.put, List.setIfInBounds_toArray, List.set_cons_zero, List.set_cons_succ, List.getElem_toArray, List.getElem_cons_zero, List.getElem_cons_succ]
                refine wpAny_take (i := 6) (v := ?_) rfl (by kernel_rfl) (by kernel_rfl) (by kernel_rfl) (fun _ _ _ h => h) (Or.inl ⟨by rfl, ?_⟩) ?_
                rotate_left
                · intro w'
                  go_simp
                  try with_reducible rfl
                try simp only [Act.put, List.setIfInBounds_toArray, List.set_cons_zero, List.set_cons_succ, List.getElem_toArray, List.getElem_cons_zero, List.getElem_cons_succ]
                refine wpAny_take (i := 7) (v := ?_) rfl (by kernel_rfl) (by kernel_rfl) (by kernel_rfl) (fun _ _ _ h => h) (Or.inl ⟨by rfl, ?_⟩) ?_
                rotate_left
                · intro w'
                  go_simp
                  try with_reducible rfl
                try simp only [Act.put, List.setIfInBounds_toArray, List.set_cons_zero, List.set_cons_succ, List.getElem_toArray, List.getElem_cons_zero, List.getElem_cons_succ]
                refine wpAny_take (i := 8) (v := ?_) rfl (by kernel_rfl) (by kernel_rfl) (by kernel_rfl) (fun _ _ _ h => h) (Or.inl ⟨by rfl, ?_⟩) ?_
                rotate_left
                · intro w'
                  go_simp
                  try with_reducible rfl
                try simp only [Act.put, List.setIfInBounds_toArray, List.set_cons_zero, List.set_cons_succ, List.getElem_toArray, List.getElem_cons_zero, List.getElem_cons_succ]
                refine wpAny_ready (rs := [9]) (by kernel_rfl) (by simp) ?_
                refine AllReady.cons rfl (fun K hK => ?_) ?_
                · refine step_store_row rfl 27 _ _ rfl g #[x0, x1, x2, x3, x4, x5] rfl rfl 27 _ Hm8.out tree_size' rfl hone8 ?_
                  (refine hK _ _ ?_; clear hK K)
                  try simp only [Act.put, List.getElem_toArray, List.getElem_cons_zero, List.getElem_cons_succ]
                  refine wpAny_done (by kernel_rfl) ?_ _
                  have Hnext := Lib.hid (MapQ.put Hcw.out hgw Hmg.out Hkey.out Hgood.out Hm8.out (Ho8.out.lower (heap_lt Hm6.out)) hn8 (Hc6.out.below Hb8.out Hc6.out.lt) (grown_below (grown_trans (grown_trans Hg4.out Hg5.out) Hg6.out) (Hb8.out.mono (Nat.le_trans Hg4.out.size (Nat.le_trans Hg5.out.size Hg6.out.size)))))
                  go_wp2_with fail
                  go_roundg (3 - (j + 1))
                  case measure => omega
                  case rel => exact ⟨j + 1, hj4, rfl, by go_num, Hnext⟩
                exact AllReady.nil
              exact AllReady.nil
            exact AllReady.nil
          exact AllReady.nil
        exact AllReady.nil
      · have hone4 := ho4.one
        have Hm := Lib.hid hm4
        have Ho := Lib.hid (ho4.lower (show w2.heap.size ≤ g + 1 by omega))
        have Hc := Lib.hid hst4c
        have Hg := Lib.hid hg4'
        have Hnd := Lib.hid hn4
        have Hwt := Lib.hid (show weight t ≤ 20000 from Nat.le_trans ((mg.good (by omega)).light (by decide)) (by decide))
        clear hm4 hst4c ho4 hg4' mg
        have HWd := Lib.hid (fun w' (h : Cur w' c A len cap z) => word_any c A len cap z w' h)
        have HAn := Lib.hid (fun w' (h : Cur w' c A len cap z) => any_any c A len cap z w' h)
        obtain ⟨wa, hwa⟩ : ∃ wa, wa = w4.drew := ⟨_, rfl⟩
        have Hma := Lib.hid (show wa.heap[g]? = some (.cells #[y0, y1, y2, y3, y4, y5] 27 (0, 0)) by rw [hwa]; exact Hm.out)
        have Hca := Lib.hid (show Cur wa c A len cap z by rw [hwa]; exact Hc.out)
        have Hoa := Lib.hid (show OwnS wa w2.heap.size f4 [y0, y1, y2, y3, y4, y5] (row t) F by rw [hwa]; exact Ho.out.below (Below.refl _ _).drew)
        have Hga := Lib.hid (show w2.grownBy wa (some c) by rw [hwa]; exact grown_below Hg.out ((Below.refl _ _).drew))
        clear Hm Hc Ho Hg
        go_upto_region 9 with fail
        refine wp_region_any (by kernel_rfl) ?_
        change wpAny _ _ _ _ _ _ _ (World.drew w4)
        rw [← hwa]
        clear hwa
        obtain ⟨p0, p1, p2, p3, p4, p5⟩ := Row6.of Hma.out
        refine wpAny_take (i := 1) (v := ?_) rfl (by kernel_rfl) (by kernel_rfl) (by kernel_rfl) (fun _ _ _ h => h) (Or.inl ⟨by rfl, ?_⟩) ?_
        rotate_left
        · intro w'
          go_simp
          try with_reducible rfl
        try simp only [Act.put, List.setIfInBounds_toArray, List.set_cons_zero, List.set_cons_succ, List.getElem_toArray, List.getElem_cons_zero, List.getElem_cons_succ]
        refine wpAny_take (i := 3) (v := ?_) rfl (by kernel_rfl) (by kernel_rfl) (by kernel_rfl) (fun _ _ _ h => h) (Or.inl ⟨by rfl, ?_⟩) ?_
        rotate_left
        · intro w'
          go_simp
          try with_reducible rfl
        try simp only [Act.put, List.setIfInBounds_toArray, List.set_cons_zero, List.set_cons_succ, List.getElem_toArray, List.getElem_cons_zero, List.getElem_cons_succ]
        refine wpAny_ready (rs := [0, 2]) (by kernel_rfl) (by simp) ?_
        refine AllReady.cons rfl (fun K hK => ?_) ?_
        · go_simp
          (refine hK _ _ ?_; clear hK K)
          try simp only [Act.put, List.setIfInBounds_toArray, List.set_cons_zero, List.set_cons_succ, List.getElem_toArray, List.getElem_cons_zero, List.getElem_cons_succ]
          refine wpAny_ready (rs := [2]) (by kernel_rfl) (by simp) ?_
          refine AllReady.cons rfl (fun K hK => ?_) ?_
          · go_simp
            go_at_call 17
            refine (HWd.out _ Hca.out).mono ?_
            rintro e w6 ⟨key, hkey, rfl, hc6, hg6⟩
            have Hc6 := Lib.hid hc6
            have Hg6 := Lib.hid hg6
            have Hkey := Lib.hid hkey.1
            have Hm6 := Lib.hid (kept_block hg6 hcm Hma.out)
            clear hkey
            obtain ⟨p0, p1, p2, p3, p4, p5⟩ := Row6.of Hm6.out
            (refine hK _ _ ?_; clear hK K)
            try simp only [Act.put, List.setIfInBounds_toArray, List.set_cons_zero, List.set_cons_succ, List.getElem_toArray, List.getElem_cons_zero, List.getElem_cons_succ]
            refine wpAny_ready (rs := [4]) (by kernel_rfl) (by simp) ?_
            refine AllReady.cons rfl (fun K hK => ?_) ?_
            · go_simp
              go_at_call 13
              refine (HAn.out _ Hc6.out).mono ?_
              rintro e w7 ⟨kid, vs7, f7, G, hwk, rfl, ho7, hn7, hc7, hg7⟩
              obtain ⟨x0, x1, x2, x3, x4, x5, rfl⟩ := six_of (ho7.1.trans (row_length _))
              have hone7 := ho7.one
              have Hm7 := Lib.hid (kept_block hg7 hcm Hm6.out)
              have Hg7 := Lib.hid (grown_trans (grown_trans Hga.out Hg6.out) hg7)
              have Ho7 := Lib.hid (ho7.lower (Nat.le_trans Hga.out.size Hg6.out.size))
              have Hta := Lib.hid (owns_drew (owns_drew Hoa.out Hg6.out Hcw.out) hg7 Hcw.out)
              have Hwk := Lib.hid hwk
              have hr2 := kept_lowc Hg7.out Hc2lo.out (by omega) Hr2.out
              have hr4 := kept_lowc Hg7.out Hc2lo.out (by omega) Hr4.out
              have Hr27 := Lib.hid hr2
              have Hr47 := Lib.hid hr4
              clear hc7 hg7 ho7 hwk
              obtain ⟨p0, p1, p2, p3, p4, p5⟩ := Row6.of Hm7.out
              (refine hK _ _ ?_; clear hK K)
              try simp only [Act.put, List.setIfInBounds_toArray, List.set_cons_zero, List.set_cons_succ, List.getElem_toArray, List.getElem_cons_zero, List.getElem_cons_succ]
              refine wpAny_ready (rs := [5]) (by kernel_rfl) (by simp) ?_
              refine AllReady.cons rfl (fun K hK => ?_) ?_
              · refine step_store_row rfl 27 _ _ rfl w.heap.size #[y0, y1, y2, y3, y4, y5] rfl rfl 27 _ hr2 tree_size' rfl hone4 ?_
                (refine hK _ _ ?_; clear hK K)
                try simp only [Act.put, List.getElem_toArray, List.getElem_cons_zero, List.getElem_cons_succ]
                refine wpAny_take (i := 6) (v := ?_) rfl (by kernel_rfl) (by kernel_rfl) (by kernel_rfl) (fun _ _ _ h => h) (Or.inl ⟨by rfl, ?_⟩) ?_
                rotate_left
                · intro w'
                  go_simp
                  try with_reducible rfl
                try simp only [Act.put, List.setIfInBounds_toArray, List.set_cons_zero, List.set_cons_succ, List.getElem_toArray, List.getElem_cons_zero, List.getElem_cons_succ]
                refine wpAny_ready (rs := [7]) (by kernel_rfl) (by simp) ?_
                refine AllReady.cons rfl (fun K hK => ?_) ?_
                · refine step_store_row rfl 27 _ _ rfl (w.heap.size + 1) #[x0, x1, x2, x3, x4, x5] rfl rfl 27 _ ((row_other (by omega)).trans hr4) tree_size' rfl hone7 ?_
                  (refine hK _ _ ?_; clear hK K)
                  try simp only [Act.put, List.getElem_toArray, List.getElem_cons_zero, List.getElem_cons_succ]
                  refine wpAny_done (by kernel_rfl) ?_ _
                  go_wp2_with fail
                  refine bodyPost_ret (v := .tuple #[.agg #[y0, y1, y2, y3, y4, y5], .string key, .agg #[x0, x1, x2, x3, x4, x5]]) ?_ rfl (drawn_of Hb2.out Hclo.out Hg7.out Hwt.out Hkey.out Hwk.out Hlo2.out Hta.out Hnd.out Ho7.out (setRow_below (setRow_below (Below.refl _ _) (Nat.le_refl _) _) (Nat.le_succ _) _) (fun x hx => (row_other (by omega)).trans (row_other (by omega))))
                  exact ret_three rfl rfl rfl rfl rfl rfl ((row_other (by omega)).trans (setRow_at Hr27.out)) (setRow_at ((row_other (by omega)).trans Hr47.out))
                exact AllReady.nil
              exact AllReady.nil
            exact AllReady.nil
          exact AllReady.nil
        refine AllReady.cons rfl (fun K hK => ?_) ?_
        · go_simp
          go_at_call 17
          refine (HWd.out _ Hca.out).mono ?_
          rintro e w6 ⟨key, hkey, rfl, hc6, hg6⟩
          have Hc6 := Lib.hid hc6
          have Hg6 := Lib.hid hg6
          have Hkey := Lib.hid hkey.1
          have Hm6 := Lib.hid (kept_block hg6 hcm Hma.out)
          clear hkey
          obtain ⟨p0, p1, p2, p3, p4, p5⟩ := Row6.of Hm6.out
          (refine hK _ _ ?_; clear hK K)
          try simp only [Act.put, List.setIfInBounds_toArray, List.set_cons_zero, List.set_cons_succ, List.getElem_toArray, List.getElem_cons_zero, List.getElem_cons_succ]
          refine wpAny_ready (rs := [0, 4]) (by kernel_rfl) (by simp) ?_
          refine AllReady.cons rfl (fun K hK => ?_) ?_
          · go_simp
            (refine hK _ _ ?_; clear hK K)
            try simp only [Act.put, List.setIfInBounds_toArray, List.set_cons_zero, List.set_cons_succ, List.getElem_toArray, List.getElem_cons_zero, List.getElem_cons_succ]
            refine wpAny_ready (rs := [4]) (by kernel_rfl) (by simp) ?_
            refine AllReady.cons rfl (fun K hK => ?_) ?_
            · go_simp
              go_at_call 13
              refine (HAn.out _ Hc6.out).mono ?_
              rintro e w7 ⟨kid, vs7, f7, G, hwk, rfl, ho7, hn7, hc7, hg7⟩
              obtain ⟨x0, x1, x2, x3, x4, x5, rfl⟩ := six_of (ho7.1.trans (row_length _))
              have hone7 := ho7.one
              have Hm7 := Lib.hid (kept_block hg7 hcm Hm6.out)
              have Hg7 := Lib.hid (grown_trans (grown_trans Hga.out Hg6.out) hg7)
              have Ho7 := Lib.hid (ho7.lower (Nat.le_trans Hga.out.size Hg6.out.size))
              have Hta := Lib.hid (owns_drew (owns_drew Hoa.out Hg6.out Hcw.out) hg7 Hcw.out)
              have Hwk := Lib.hid hwk
              have hr2 := kept_lowc Hg7.out Hc2lo.out (by omega) Hr2.out
              have hr4 := kept_lowc Hg7.out Hc2lo.out (by omega) Hr4.out
              have Hr27 := Lib.hid hr2
              have Hr47 := Lib.hid hr4
              clear hc7 hg7 ho7 hwk
              obtain ⟨p0, p1, p2, p3, p4, p5⟩ := Row6.of Hm7.out
              (refine hK _ _ ?_; clear hK K)
              try simp only [Act.put, List.setIfInBounds_toArray, List.set_cons_zero, List.set_cons_succ, List.getElem_toArray, List.getElem_cons_zero, List.getElem_cons_succ]
              refine wpAny_ready (rs := [5]) (by kernel_rfl) (by simp) ?_
              refine AllReady.cons rfl (fun K hK => ?_) ?_
              · refine step_store_row rfl 27 _ _ rfl w.heap.size #[y0, y1, y2, y3, y4, y5] rfl rfl 27 _ hr2 tree_size' rfl hone4 ?_
                (refine hK _ _ ?_; clear hK K)
                try simp only [Act.put, List.getElem_toArray, List.getElem_cons_zero, List.getElem_cons_succ]
                refine wpAny_take (i := 6) (v := ?_) rfl (by kernel_rfl) (by kernel_rfl) (by kernel_rfl) (fun _ _ _ h => h) (Or.inl ⟨by rfl, ?_⟩) ?_
                rotate_left
                · intro w'
                  go_simp
                  try with_reducible rfl
                try simp only [Act.put, List.setIfInBounds_toArray, List.set_cons_zero, List.set_cons_succ, List.getElem_toArray, List.getElem_cons_zero, List.getElem_cons_succ]
                refine wpAny_ready (rs := [7]) (by kernel_rfl) (by simp) ?_
                refine AllReady.cons rfl (fun K hK => ?_) ?_
                · refine step_store_row rfl 27 _ _ rfl (w.heap.size + 1) #[x0, x1, x2, x3, x4, x5] rfl rfl 27 _ ((row_other (by omega)).trans hr4) tree_size' rfl hone7 ?_
                  (refine hK _ _ ?_; clear hK K)
                  try simp only [Act.put, List.getElem_toArray, List.getElem_cons_zero, List.getElem_cons_succ]
                  refine wpAny_done (by kernel_rfl) ?_ _
                  go_wp2_with fail
                  refine bodyPost_ret (v := .tuple #[.agg #[y0, y1, y2, y3, y4, y5], .string key, .agg #[x0, x1, x2, x3, x4, x5]]) ?_ rfl (drawn_of Hb2.out Hclo.out Hg7.out Hwt.out Hkey.out Hwk.out Hlo2.out Hta.out Hnd.out Ho7.out (setRow_below (setRow_below (Below.refl _ _) (Nat.le_refl _) _) (Nat.le_succ _) _) (fun x hx => (row_other (by omega)).trans (row_other (by omega))))
                  exact ret_three rfl rfl rfl rfl rfl rfl ((row_other (by omega)).trans (setRow_at Hr27.out)) (setRow_at ((row_other (by omega)).trans Hr47.out))
                exact AllReady.nil
              exact AllReady.nil
            exact AllReady.nil
          refine AllReady.cons rfl (fun K hK => ?_) ?_
          · go_simp
            go_at_call 13
            refine (HAn.out _ Hc6.out).mono ?_
            rintro e w7 ⟨kid, vs7, f7, G, hwk, rfl, ho7, hn7, hc7, hg7⟩
            obtain ⟨x0, x1, x2, x3, x4, x5, rfl⟩ := six_of (ho7.1.trans (row_length _))
            have hone7 := ho7.one
            have Hm7 := Lib.hid (kept_block hg7 hcm Hm6.out)
            have Hg7 := Lib.hid (grown_trans (grown_trans Hga.out Hg6.out) hg7)
            have Ho7 := Lib.hid (ho7.lower (Nat.le_trans Hga.out.size Hg6.out.size))
            have Hta := Lib.hid (owns_drew (owns_drew Hoa.out Hg6.out Hcw.out) hg7 Hcw.out)
            have Hwk := Lib.hid hwk
            have hr2 := kept_lowc Hg7.out Hc2lo.out (by omega) Hr2.out
            have hr4 := kept_lowc Hg7.out Hc2lo.out (by omega) Hr4.out
            have Hr27 := Lib.hid hr2
            have Hr47 := Lib.hid hr4
            clear hc7 hg7 ho7 hwk
            obtain ⟨p0, p1, p2, p3, p4, p5⟩ := Row6.of Hm7.out
            (refine hK _ _ ?_; clear hK K)
            try simp only [Act.put, List.setIfInBounds_toArray, List.set_cons_zero, List.set_cons_succ, List.getElem_toArray, List.getElem_cons_zero, List.getElem_cons_succ]
            refine wpAny_ready (rs := [0]) (by kernel_rfl) (by simp) ?_
            refine AllReady.cons rfl (fun K hK => ?_) ?_
            · go_simp
              (refine hK _ _ ?_; clear hK K)
              try simp only [Act.put, List.setIfInBounds_toArray, List.set_cons_zero, List.set_cons_succ, List.getElem_toArray, List.getElem_cons_zero, List.getElem_cons_succ]
              refine wpAny_ready (rs := [5]) (by kernel_rfl) (by simp) ?_
              refine AllReady.cons rfl (fun K hK => ?_) ?_
              · refine step_store_row rfl 27 _ _ rfl w.heap.size #[y0, y1, y2, y3, y4, y5] rfl rfl 27 _ hr2 tree_size' rfl hone4 ?_
                (refine hK _ _ ?_; clear hK K)
                try simp only [Act.put, List.getElem_toArray, List.getElem_cons_zero, List.getElem_cons_succ]
                refine wpAny_take (i := 6) (v := ?_) rfl (by kernel_rfl) (by kernel_rfl) (by kernel_rfl) (fun _ _ _ h => h) (Or.inl ⟨by rfl, ?_⟩) ?_
                rotate_left
                · intro w'
                  go_simp
                  try with_reducible rfl
                try simp only [Act.put, List.setIfInBounds_toArray, List.set_cons_zero, List.set_cons_succ, List.getElem_toArray, List.getElem_cons_zero, List.getElem_cons_succ]
                refine wpAny_ready (rs := [7]) (by kernel_rfl) (by simp) ?_
                refine AllReady.cons rfl (fun K hK => ?_) ?_
                · refine step_store_row rfl 27 _ _ rfl (w.heap.size + 1) #[x0, x1, x2, x3, x4, x5] rfl rfl 27 _ ((row_other (by omega)).trans hr4) tree_size' rfl hone7 ?_
                  (refine hK _ _ ?_; clear hK K)
                  try simp only [Act.put, List.getElem_toArray, List.getElem_cons_zero, List.getElem_cons_succ]
                  refine wpAny_done (by kernel_rfl) ?_ _
                  go_wp2_with fail
                  refine bodyPost_ret (v := .tuple #[.agg #[y0, y1, y2, y3, y4, y5], .string key, .agg #[x0, x1, x2, x3, x4, x5]]) ?_ rfl (drawn_of Hb2.out Hclo.out Hg7.out Hwt.out Hkey.out Hwk.out Hlo2.out Hta.out Hnd.out Ho7.out (setRow_below (setRow_below (Below.refl _ _) (Nat.le_refl _) _) (Nat.le_succ _) _) (fun x hx => (row_other (by omega)).trans (row_other (by omega))))
                  exact ret_three rfl rfl rfl rfl rfl rfl ((row_other (by omega)).trans (setRow_at Hr27.out)) (setRow_at ((row_other (by omega)).trans Hr47.out))
                exact AllReady.nil
              exact AllReady.nil
            exact AllReady.nil
          exact AllReady.nil
        exact AllReady.nil
end Go.Proofs.YtfggpcahfpjgmaaDoor.tree
