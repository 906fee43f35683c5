/- spec.DrawUntolerated, spec.DrawTolerates. -/
import Derived.Test.YtpadpiibiocabaaDoorDrawTolerances
import Derived.Test.YtpadpiibiocabaaDoorDrawAnyTaints
import Derived.Test.YtpadpiibiocabaaDoorGCmp
import Derived.Test.YtpadpiibiocabaaDoorBigL
import Derived.OwnWalk
import Derived.Deep.RegionHeld3
namespace Go.Proofs.YtpadpiibiocabaaDoor.draw
open Go.ChangeShapes Go.WideShapes Go.ChangeAt Go.RowKit ty lab dedup taint need
set_option linter.unusedVariables false

/-- Two drawn lists and a number. -/
def DrawnU (w : World) (e : Ending) (w' : World) : Prop := ∃ (l : List Tolerance) (m : List Taint) (x : Int) (v u : Value) (f g : Nat), l.length ≤ 4 ∧ (∀ t ∈ l, TinyO 5 t) ∧ m.length ≤ 41 ∧ (∀ y ∈ m, TinyT 5 y) ∧ (0 ≤ x ∧ x < 4) ∧ e = .returned (.tuple #[v, u, .int .i64 x]) ∧ Lies w' f v (.sl 4 l.length (l.flatMap Tolerance.row)) ∧ Lies w' g u (.sl 3 m.length (m.flatMap Taint.row)) ∧ Below w.heap.size w w'
set_option maxRecDepth 1000000 in
set_option maxHeartbeats 8000000 in
theorem drawUntol (A : Option Addr) (len cap : Nat) (zs : List Int) (w : World) (hr : IsRow .u8 w A len cap zs) (hlen : len ≤ 1048576) :
    Calls Tryd.prog 13 #[.slice A len cap] w fun e w' => DrawnU w e w' := by
  have HN := Lib.hid (new_any A len cap zs w hr hlen)
  clear hr
  go_enter Tryd.func13, Tryd.ntmps13
  go_wp2_with fail
  refine HN.out.mono ?_
  clear HN
  rintro e w1 ⟨c, rfl, hcw, hc, hb1⟩
  generalize (fun j => zs.getD j 0) = z at hc
  have hcl := hc.lt
  have HA := Lib.hid (Tolerances_any c A len cap z w1 hc)
  clear hc
  go_wp2_with fail
  refine HA.out.mono ?_
  clear HA
  rintro e w2 ⟨l, v, f, F, ⟨hl, ht⟩, rfl, ho, hnd, hc2, hg2⟩
  have hb2 := hb1.grown hg2 hb1.size (fun b hb => by injection hb with hb; omega)
  have hs2 : w1.heap.size ≤ w2.heap.size := hg2.size
  have Ho := Lib.hid ho
  have Ht := Lib.hid ht
  have Hb2 := Lib.hid hb2
  have HA := Lib.hid (anyTaints_any c A len cap z w2 hc2)
  clear ho hnd hg2 hc2 hb1 ht hb2
  go_wp2_with fail
  refine HA.out.mono ?_
  clear HA
  rintro e w3 ⟨m, u, g, G, ⟨hm, hy⟩, rfl, ho3, hnd3, hc3, hg3⟩
  have Ho2 := Lib.hid (own_curF Ho.out hcl hg3)
  have Hb3 := Lib.hid (Hb2.out.grown hg3 Hb2.out.size (fun b hb => by injection hb with hb; omega))
  have Ho3 := Lib.hid ho3
  have Hy := Lib.hid hy
  have hs3 : w2.heap.size ≤ w3.heap.size := hg3.size
  have HB := Lib.hid (below_any c A len cap z 4 w3 hc3 (by decide) (by decide))
  clear Ho Hb2 ho3 hnd3 hg3 hc3 hy
  go_wp2_with fail
  refine HB.out.mono ?_
  clear HB
  rintro e w4 ⟨x, hx, rfl, hc4, hg4⟩
  have HR := Lib.hid (show DrawnU w (.returned (.tuple #[v, u, .int .i64 x])) w4 from ⟨l, m, x, v, u, _, _, hl, Ht.out, hm, Hy.out, hx, rfl, (own_curF Ho2.out hcl hg4).lies, (own_curF Ho3.out (by omega) hg4).lies, Hb3.out.grown hg4 Hb3.out.size (fun b hb => by injection hb with hb; omega)⟩)
  clear hc4 hg4 Ho2 Ho3 Hb3
  go_wp2_with fail
  go_ret3
  exact HR.out

/-! spec.DrawTolerates. -/
theorem ret_tw {fn : Func} {c d : Tmp} {tmps : Array Value} {w : World} {g g2 : Nat} {vs us : List Value} (h : fn.results = #[.cell c 30, .cell d 32])
    (hc : tmps.getD c undef = .pointer (some ⟨g, 0, none⟩)) (hd : tmps.getD d undef = .pointer (some ⟨g2, 0, none⟩)) (hsz : vs.toArray.size = 4) (hsz2 : us.toArray.size = 3)
    (hg : RowE 30 w g vs) (hg2 : RowE 32 w g2 us) : (results fn tmps).run Tryd.prog w = .ok (.tuple #[.agg vs.toArray, .agg us.toArray]) w := by
  have hl := run_loadVar_row (P := Tryd.prog) w g _ 30 vs.toArray (0, 0) _ hg Tryd.underlying30 rfl (by rw [hsz]; exact TrydsizeTo)
  have hl2 := run_loadVar_row (P := Tryd.prog) w g2 _ 32 us.toArray (0, 0) _ hg2 Tryd.underlying32 rfl (by rw [hsz2]; exact TrydsizeTn)
  have e : (results fn tmps).run Tryd.prog w = ((asAddr (tmps.getD c undef)).run Tryd.prog w).andThen fun a w1 => ((loadVar 30 a).run Tryd.prog w1).andThen fun v w2 => ((asAddr (tmps.getD d undef)).run Tryd.prog w2).andThen fun b w3 => ((loadVar 32 b).run Tryd.prog w3).andThen fun u w4 => .ok (.tuple #[v, u]) w4 := by
    simp only [results, h]
    simp [Sem.run_bind, Result.andThen]
  rw [e, hc, hd]
  simp [asAddr, Result.andThen, hl, hl2]
/-- Two result boxes and two boxes of the call's own. -/
structure Tw (w : World) (c : Nat) (A : Option Addr) (len cap : Nat) (z : Nat → Int) (b5 b6 : Nat) (t : Tolerance) (x : Taint) (a : World) : Prop where
  cur : Cur a c A len cap z
  bel : Below w.heap.size w a
  z1 : RowE 30 a w.heap.size [.string ⟨#[]⟩, .bool false, .string ⟨#[]⟩, .int .i64 0]
  z2 : RowE 32 a (w.heap.size + 1) [.string ⟨#[]⟩, .string ⟨#[]⟩, .int .i64 0]
  mt : RowE 30 a b5 [.string t.key, .bool t.equal, .string t.value, .int .i64 t.effect]
  mx : RowE 32 a b6 [.string x.key, .string x.value, .int .i64 x.effect]
theorem Tw.turn {w a b : World} {c b5 b6 : Nat} {A : Option Addr} {len cap : Nat} {z : Nat → Int} {t : Tolerance} {x : Taint} (h : Tw w c A len cap z b5 b6 t x a) (h1 : w.heap.size + 1 < c) (h2 : c < b5) (h3 : b5 < b6) (hc : Cur b c A len cap z) (hg : a.grownBy b (some c)) : Tw w c A len cap z b5 b6 t x b :=
  ⟨hc, h.bel.grown hg h.bel.size (fun q hq => by injection hq with hq; omega), RowE.cur h.z1 hg (by omega), RowE.cur h.z2 hg (by omega), RowE.cur h.mt hg (by omega), RowE.cur h.mx hg (by omega)⟩
theorem Tw.key {w a : World} {c b5 b6 : Nat} {A : Option Addr} {len cap : Nat} {z : Nat → Int} {t : Tolerance} {x : Taint} (h : Tw w c A len cap z b5 b6 t x a) (h1 : w.heap.size + 1 < c) (h2 : c < b5) (h3 : b5 < b6) (k : ByteArray) : Tw w c A len cap z b5 b6 t ⟨k, x.value, x.effect⟩ (a.setCell ⟨b6, 0, none⟩ (.string k)) :=
  ⟨h.cur.below ((Below.refl b6 a).setCell (Nat.le_refl _) _) (by omega), h.bel.setCell (by show w.heap.size ≤ b6; omega) _, RowE.other h.z1 (by omega), RowE.other h.z2 (by omega), RowE.other h.mt (by omega), RowE.put h.mx 0 _⟩
theorem Tw.val {w a : World} {c b5 b6 : Nat} {A : Option Addr} {len cap : Nat} {z : Nat → Int} {t : Tolerance} {x : Taint} (h : Tw w c A len cap z b5 b6 t x a) (h1 : w.heap.size + 1 < c) (h2 : c < b5) (h3 : b5 < b6) (k : ByteArray) : Tw w c A len cap z b5 b6 t ⟨x.key, k, x.effect⟩ (a.setCell ⟨b6, 1, none⟩ (.string k)) :=
  ⟨h.cur.below ((Below.refl b6 a).setCell (Nat.le_refl _) _) (by omega), h.bel.setCell (by show w.heap.size ≤ b6; omega) _, RowE.other h.z1 (by omega), RowE.other h.z2 (by omega), RowE.other h.mt (by omega), RowE.put h.mx 1 _⟩
/-- A drawn toleration and a drawn taint. -/
def DrawnT (w : World) (e : Ending) (w' : World) : Prop := ∃ (t : Tolerance) (x : Taint), TinyO 5 t ∧ TinyT 5 x ∧ e = .returned (.tuple #[.agg #[.string t.key, .bool t.equal, .string t.value, .int .i64 t.effect], .agg #[.string x.key, .string x.value, .int .i64 x.effect]]) ∧ Below w.heap.size w w'
theorem setRow_low {w : World} {g x : Nat} {e : TypeId} {us : List Value} {vs : Array Value} (h : RowE e w x us) (hx : x ≠ g) : RowE e (w.setRow g vs) x us := row_otherE hx h
set_option maxRecDepth 1000000 in
set_option maxHeartbeats 16000000 in
theorem drawTol (A : Option Addr) (len cap : Nat) (zs : List Int) (w : World) (hr : IsRow .u8 w A len cap zs) (hlen : len ≤ 1048576) :
    Calls Tryd.prog 15 #[.slice A len cap] w fun e w' => DrawnT w e w' := by
  obtain ⟨W, hW⟩ : ∃ W, W = (w.alloc (.cells #[.string ⟨#[]⟩, .bool false, .string ⟨#[]⟩, .int .i64 0] 30)).alloc (.cells #[.string ⟨#[]⟩, .string ⟨#[]⟩, .int .i64 0] 32) := ⟨_, rfl⟩
  have hbW : Below w.heap.size w W := by rw [hW]; exact ((Below.refl _ _).alloc (Nat.le_refl _) _).alloc (by simp) _
  have hsW : W.heap.size = w.heap.size + 2 := by rw [hW]; simp
  have hz1 : RowE 30 W w.heap.size [.string ⟨#[]⟩, .bool false, .string ⟨#[]⟩, .int .i64 0] := by rw [hW]; exact (RowE.new _ _ _).alloc
  have hz2 : RowE 32 W (w.heap.size + 1) [.string ⟨#[]⟩, .string ⟨#[]⟩, .int .i64 0] := by
    have h := RowE.new 32 (w.alloc (.cells #[.string ⟨#[]⟩, .bool false, .string ⟨#[]⟩, .int .i64 0] 30)) [.string ⟨#[]⟩, .string ⟨#[]⟩, .int .i64 0]
    rw [show (w.alloc (.cells #[.string ⟨#[]⟩, .bool false, .string ⟨#[]⟩, .int .i64 0] 30)).heap.size = w.heap.size + 1 by simp] at h
    rw [hW]; exact h
  have HN := Lib.hid (new_any A len cap zs W (hr.below hbW) hlen)
  have HW := Lib.hid hW
  have HZ1 := Lib.hid hz1
  have HZ2 := Lib.hid hz2
  have HbW := Lib.hid hbW
  clear hr hW hz1 hz2 hbW
  go_enter Tryd.func15, Tryd.ntmps15
  go_wp2_with fail
  rw [← HW.out]
  refine HN.out.mono ?_
  clear HN
  rintro e w1 ⟨c, rfl, hcw, hc, hb1⟩
  generalize (fun j => zs.getD j 0) = z at hc
  have hcl := hc.lt
  have h1c : w.heap.size + 1 < c := by omega
  have Z1 := Lib.hid (HZ1.out.below hb1)
  have Z2 := Lib.hid (HZ2.out.below hb1)
  have B1 := Lib.hid (below_link HbW.out hb1 HbW.out.size)
  have HA := Lib.hid (anyTol_any c A len cap z w1 hc)
  clear hc hb1 HZ1 HZ2 HbW HW hcw hsW
  go_wp2_with fail
  refine HA.out.mono ?_
  clear HA
  rintro e w2 ⟨t, ht, he, hc2, hg2⟩
  obtain rfl : e = .returned (.agg #[.string t.key, .bool t.equal, .string t.value, .int .i64 t.effect]) := he
  have hc5 : c < w2.heap.size := Nat.lt_of_lt_of_le hcl hg2.size
  obtain ⟨X, hX⟩ : ∃ X, X = w2.alloc (.cells #[.string t.key, .bool t.equal, .string t.value, .int .i64 t.effect] 30) := ⟨_, rfl⟩
  have hbX : Below w2.heap.size w2 X := by rw [hX]; exact (Below.refl _ _).alloc (Nat.le_refl _) _
  have hsX : X.heap.size = w2.heap.size + 1 := by rw [hX]; simp
  have B2 := B1.out.grown hg2 B1.out.size (fun q hq => by injection hq with hq; omega)
  have M1 := Lib.hid (show RowE 30 X w2.heap.size [.string t.key, .bool t.equal, .string t.value, .int .i64 t.effect] by rw [hX]; exact RowE.new _ _ _)
  have Z1' := Lib.hid ((RowE.cur Z1.out hg2 (by omega)).below hbX)
  have Z2' := Lib.hid ((RowE.cur Z2.out hg2 (by omega)).below hbX)
  have BX := Lib.hid (below_link B2 hbX B2.size)
  have Ht := Lib.hid ht
  have HX := Lib.hid hX
  have HA := Lib.hid (anyTaint_any c A len cap z X (hc2.below (hbX.mono hc2.lt) (Nat.lt_succ_self c)))
  obtain ⟨b5, hb5⟩ : ∃ b, b = w2.heap.size := ⟨_, rfl⟩
  have Hb5 := Lib.hid hb5
  rw [← hb5] at M1 hc5 hsX
  clear hc2 hg2 hbX B1 B2 Z1 Z2 hX ht hb5
  go_wp2_with fail
  rw [← HX.out, ← Hb5.out]
  refine HA.out.mono ?_
  clear HA
  rintro e w3 ⟨x, hx, he, hc3, hg3⟩
  obtain rfl : e = .returned (.agg #[.string x.key, .string x.value, .int .i64 x.effect]) := he
  have h56 : b5 < w3.heap.size := by have := hg3.size; omega
  obtain ⟨Y, hY⟩ : ∃ Y, Y = w3.alloc (.cells #[.string x.key, .string x.value, .int .i64 x.effect] 32) := ⟨_, rfl⟩
  have hbY : Below w3.heap.size w3 Y := by rw [hY]; exact (Below.refl _ _).alloc (Nat.le_refl _) _
  have B3 := BX.out.grown hg3 BX.out.size (fun q hq => by injection hq with hq; omega)
  obtain ⟨b6, hb6⟩ : ∃ b, b = w3.heap.size := ⟨_, rfl⟩
  have Hb6 := Lib.hid hb6
  have S0 := Lib.hid (show Tw w c A len cap z b5 b6 t x Y from ⟨hc3.below (hbY.mono hc3.lt) (Nat.lt_succ_self c), below_link B3 hbY B3.size, (RowE.cur Z1'.out hg3 (by omega)).below hbY, (RowE.cur Z2'.out hg3 (by omega)).below hbY, (RowE.cur M1.out hg3 (by omega)).below hbY, by rw [hY, hb6]; exact RowE.new _ _ _⟩)
  rw [← hb6] at h56
  have Hx := Lib.hid hx
  have HY := Lib.hid hY
  have HO := Lib.hid (once_any c A len cap z 2 Y S0.out.cur (by decide) (by decide))
  clear hc3 hg3 hbY B3 BX Z1' Z2' M1 hY hx hb6 HX Hb5 hcl hsX
  go_wp2_with fail
  rw [← HY.out, ← Hb6.out]
  refine HO.out.mono ?_
  clear HO
  rintro e w4 ⟨q1, rfl, hc4, hg4⟩
  have S1 := Lib.hid (S0.out.turn h1c hc5 h56 hc4 hg4)
  clear hg4 S0 HY Hb6
  cases q1 with
  | false =>
    have HO := Lib.hid (once_any c A len cap z 2 w4 hc4 (by decide) (by decide))
    go_wp2_with fail
    refine HO.out.mono ?_
    clear HO
    rintro e w6 ⟨q2, rfl, hc6, hg6⟩
    have S3 := Lib.hid (S1.out.turn h1c hc5 h56 hc6 hg6)
    clear hc6 hg6 S1
    cases q2 with
    | false =>
      go_wp2_with fail
      have hst := Lib.hid (show ∀ q, Below w6.heap.size w6 q → RowE 30 q b5 [.string t.key, .bool t.equal, .string t.value, .int .i64 t.effect] ∧ RowE 32 q b6 [.string x.key, .string x.value, .int .i64 x.effect] ∧ RowE 30 q w.heap.size [.string ⟨#[]⟩, .bool false, .string ⟨#[]⟩, .int .i64 0] ∧ RowE 32 q (w.heap.size + 1) [.string ⟨#[]⟩, .string ⟨#[]⟩, .int .i64 0] ∧ Below w.heap.size w q from fun q hb => ⟨S3.out.mt.below hb, S3.out.mx.below hb, S3.out.z1.below hb, S3.out.z2.below hb, below_link S3.out.bel hb S3.out.bel.size⟩)
      have KS := Lib.hid (show ∀ w', RowE 30 w' b5 [.string t.key, .bool t.equal, .string t.value, .int .i64 t.effect] → RowE 32 w' b6 [.string x.key, .string x.value, .int .i64 x.effect] → w'.cell? ⟨b5, 0, none⟩ = some (.string t.key) ∧ w'.cell? ⟨b5, 1, none⟩ = some (.bool t.equal) ∧ w'.cell? ⟨b5, 2, none⟩ = some (.string t.value) ∧ w'.cell? ⟨b5, 3, none⟩ = some (.int .i64 t.effect) ∧ w'.cell? ⟨b6, 0, none⟩ = some (.string x.key) ∧ w'.cell? ⟨b6, 1, none⟩ = some (.string x.value) ∧ w'.cell? ⟨b6, 2, none⟩ = some (.int .i64 x.effect) from fun w' h1 h2 => ⟨h1.cell 0 _ rfl, h1.cell 1 _ rfl, h1.cell 2 _ rfl, h1.cell 3 _ rfl, h2.cell 0 _ rfl, h2.cell 1 _ rfl, h2.cell 2 _ rfl⟩)
      have hd := hst.out (w6).drew ((Below.refl _ _).drew)
      refine wp_region_held_drew (S := (fun w' => w'.cell? ⟨b5, 0, none⟩ = some (.string t.key) ∧ w'.cell? ⟨b5, 1, none⟩ = some (.bool t.equal) ∧ w'.cell? ⟨b5, 2, none⟩ = some (.string t.value) ∧ w'.cell? ⟨b5, 3, none⟩ = some (.int .i64 t.effect) ∧ w'.cell? ⟨b6, 0, none⟩ = some (.string x.key) ∧ w'.cell? ⟨b6, 1, none⟩ = some (.string x.value) ∧ w'.cell? ⟨b6, 2, none⟩ = some (.int .i64 x.effect))) (by kernel_rfl) ?_ (fun hHeld => ?_)
      · exact KS.out _ hd.1 hd.2.1
      refine wpAnyH_take (i := 0) (v := ?_) rfl (by kernel_rfl) (by kernel_rfl) (by kernel_rfl) (fun _ _ _ h => h) (Or.inl ⟨by rfl, ?_⟩) (by assumption) ?_
      rotate_left
      · intro w' hSw
        try dsimp only at hSw
        go_simp
        try with_reducible rfl
      try simp only [Act.put, List.setIfInBounds_toArray, List.set_cons_zero, List.set_cons_succ, List.getElem_toArray, List.getElem_cons_zero, List.getElem_cons_succ]
      refine wpAnyH_take (i := 1) (v := ?_) rfl (by kernel_rfl) (by kernel_rfl) (by kernel_rfl) (fun _ _ _ h => h) (Or.inl ⟨by rfl, ?_⟩) (by assumption) ?_
      rotate_left
      · intro w' hSw
        try dsimp only at hSw
        go_simp
        try with_reducible rfl
      try simp only [Act.put, List.setIfInBounds_toArray, List.set_cons_zero, List.set_cons_succ, List.getElem_toArray, List.getElem_cons_zero, List.getElem_cons_succ]
      refine wpAnyH_ready (rs := [2]) (by kernel_rfl) (by simp) ?_
      refine AllReadyH.cons rfl (fun K hK => ?_) ?_
      · refine step_store_rowH rfl 30 _ _ rfl w.heap.size #[.string t.key, .bool t.equal, .string t.value, .int .i64 t.effect] rfl rfl 30 [.string ⟨#[]⟩, .bool false, .string ⟨#[]⟩, .int .i64 0] hd.2.2.1 TrydsizeTo rfl (by simp [Value.oneCell']) ?_
        have r1 := setRow_low (vs := #[.string t.key, .bool t.equal, .string t.value, .int .i64 t.effect]) hd.1 (show b5 ≠ w.heap.size by omega)
        have r2 := setRow_low (vs := #[.string t.key, .bool t.equal, .string t.value, .int .i64 t.effect]) hd.2.1 (show b6 ≠ w.heap.size by omega)
        have r3 := hd.2.2.1.set (vs := [.string t.key, .bool t.equal, .string t.value, .int .i64 t.effect])
        have r4 := setRow_low (vs := #[.string t.key, .bool t.equal, .string t.value, .int .i64 t.effect]) hd.2.2.2.1 (show w.heap.size + 1 ≠ w.heap.size by omega)
        have r5 := setRow_below hd.2.2.2.2 (Nat.le_refl _) #[.string t.key, .bool t.equal, .string t.value, .int .i64 t.effect]
        refine hK.out _ _ ?_ (fun hHeld => ?_)
        · exact KS.out _ r1 r2
        clear hK K
        try simp only [Act.put, List.setIfInBounds_toArray, List.set_cons_zero, List.set_cons_succ, List.getElem_toArray, List.getElem_cons_zero, List.getElem_cons_succ]
        refine wpAnyH_ready (rs := [3]) (by kernel_rfl) (by simp) ?_
        refine AllReadyH.cons rfl (fun K hK => ?_) ?_
        · refine step_store_rowH rfl 32 _ _ rfl (w.heap.size + 1) #[.string x.key, .string x.value, .int .i64 x.effect] rfl rfl 32 [.string ⟨#[]⟩, .string ⟨#[]⟩, .int .i64 0] r4 TrydsizeTn rfl (by simp [Value.oneCell']) ?_
          have r6 := setRow_low (vs := #[.string x.key, .string x.value, .int .i64 x.effect]) r1 (show b5 ≠ w.heap.size + 1 by omega)
          have r7 := setRow_low (vs := #[.string x.key, .string x.value, .int .i64 x.effect]) r2 (show b6 ≠ w.heap.size + 1 by omega)
          have r8 := setRow_low (vs := #[.string x.key, .string x.value, .int .i64 x.effect]) r3 (show w.heap.size ≠ w.heap.size + 1 by omega)
          have r9 := r4.set (vs := [.string x.key, .string x.value, .int .i64 x.effect])
          have r10 := setRow_below r5 (Nat.le_succ _) #[.string x.key, .string x.value, .int .i64 x.effect]
          refine hK.out _ _ ?_ (fun hHeld => ?_)
          · exact KS.out _ r6 r7
          clear hK K
          try simp only [Act.put, List.setIfInBounds_toArray, List.set_cons_zero, List.set_cons_succ, List.getElem_toArray, List.getElem_cons_zero, List.getElem_cons_succ]
          refine wpAnyH_done (by kernel_rfl) ?_ _
          have R8 := Lib.hid r8
          have R9 := Lib.hid r9
          have HR := Lib.hid (show DrawnT w (.returned (.tuple #[.agg #[.string t.key, .bool t.equal, .string t.value, .int .i64 t.effect], .agg #[.string x.key, .string x.value, .int .i64 x.effect]])) _ from ⟨t, ⟨x.key, x.value, x.effect⟩, Ht.out, ⟨Hx.out.key, Hx.out.value, Hx.out.lo, Hx.out.hi⟩, rfl, r10⟩)
          clear r1 r2 r3 r4 r5 r6 r7 r8 r9 r10 hd hHeld
          go_wp2_with fail
          refine bodyPost_ret (v := .tuple #[.agg #[.string t.key, .bool t.equal, .string t.value, .int .i64 t.effect], .agg #[.string x.key, .string x.value, .int .i64 x.effect]]) ?_ rfl HR.out
          exact ret_tw rfl rfl rfl rfl rfl R8.out R9.out
        exact AllReadyH.nil
      exact AllReadyH.nil
    | true =>
      have t2 := S3.out.mt.cell 2 _ rfl
      have m1 := S3.out.mx.cell 1 _ rfl
      have f1 := RowE.frozen S3.out.mx 1
      have S4 := Lib.hid (S3.out.val h1c hc5 h56 t.value)
      obtain ⟨w7, hw7⟩ : ∃ q, q = w6.setCell ⟨b6, 1, none⟩ (.string t.value) := ⟨_, rfl⟩
      rw [← hw7] at S4
      have Hw7 := Lib.hid hw7
      clear S3 hw7
      go_wp2_with fail
      rw [← Hw7.out]
      have hst := Lib.hid (show ∀ q, Below w7.heap.size w7 q → RowE 30 q b5 [.string t.key, .bool t.equal, .string t.value, .int .i64 t.effect] ∧ RowE 32 q b6 [.string x.key, .string t.value, .int .i64 x.effect] ∧ RowE 30 q w.heap.size [.string ⟨#[]⟩, .bool false, .string ⟨#[]⟩, .int .i64 0] ∧ RowE 32 q (w.heap.size + 1) [.string ⟨#[]⟩, .string ⟨#[]⟩, .int .i64 0] ∧ Below w.heap.size w q from fun q hb => ⟨S4.out.mt.below hb, S4.out.mx.below hb, S4.out.z1.below hb, S4.out.z2.below hb, below_link S4.out.bel hb S4.out.bel.size⟩)
      have KS := Lib.hid (show ∀ w', RowE 30 w' b5 [.string t.key, .bool t.equal, .string t.value, .int .i64 t.effect] → RowE 32 w' b6 [.string x.key, .string t.value, .int .i64 x.effect] → w'.cell? ⟨b5, 0, none⟩ = some (.string t.key) ∧ w'.cell? ⟨b5, 1, none⟩ = some (.bool t.equal) ∧ w'.cell? ⟨b5, 2, none⟩ = some (.string t.value) ∧ w'.cell? ⟨b5, 3, none⟩ = some (.int .i64 t.effect) ∧ w'.cell? ⟨b6, 0, none⟩ = some (.string x.key) ∧ w'.cell? ⟨b6, 1, none⟩ = some (.string t.value) ∧ w'.cell? ⟨b6, 2, none⟩ = some (.int .i64 x.effect) from fun w' h1 h2 => ⟨h1.cell 0 _ rfl, h1.cell 1 _ rfl, h1.cell 2 _ rfl, h1.cell 3 _ rfl, h2.cell 0 _ rfl, h2.cell 1 _ rfl, h2.cell 2 _ rfl⟩)
      have hd := hst.out (w7).drew ((Below.refl _ _).drew)
      refine wp_region_held_drew (S := (fun w' => w'.cell? ⟨b5, 0, none⟩ = some (.string t.key) ∧ w'.cell? ⟨b5, 1, none⟩ = some (.bool t.equal) ∧ w'.cell? ⟨b5, 2, none⟩ = some (.string t.value) ∧ w'.cell? ⟨b5, 3, none⟩ = some (.int .i64 t.effect) ∧ w'.cell? ⟨b6, 0, none⟩ = some (.string x.key) ∧ w'.cell? ⟨b6, 1, none⟩ = some (.string t.value) ∧ w'.cell? ⟨b6, 2, none⟩ = some (.int .i64 x.effect))) (by kernel_rfl) ?_ (fun hHeld => ?_)
      · exact KS.out _ hd.1 hd.2.1
      refine wpAnyH_take (i := 0) (v := ?_) rfl (by kernel_rfl) (by kernel_rfl) (by kernel_rfl) (fun _ _ _ h => h) (Or.inl ⟨by rfl, ?_⟩) (by assumption) ?_
      rotate_left
      · intro w' hSw
        try dsimp only at hSw
        go_simp
        try with_reducible rfl
      try simp only [Act.put, List.setIfInBounds_toArray, List.set_cons_zero, List.set_cons_succ, List.getElem_toArray, List.getElem_cons_zero, List.getElem_cons_succ]
      refine wpAnyH_take (i := 1) (v := ?_) rfl (by kernel_rfl) (by kernel_rfl) (by kernel_rfl) (fun _ _ _ h => h) (Or.inl ⟨by rfl, ?_⟩) (by assumption) ?_
      rotate_left
      · intro w' hSw
        try dsimp only at hSw
        go_simp
        try with_reducible rfl
      try simp only [Act.put, List.setIfInBounds_toArray, List.set_cons_zero, List.set_cons_succ, List.getElem_toArray, List.getElem_cons_zero, List.getElem_cons_succ]
      refine wpAnyH_ready (rs := [2]) (by kernel_rfl) (by simp) ?_
      refine AllReadyH.cons rfl (fun K hK => ?_) ?_
      · refine step_store_rowH rfl 30 _ _ rfl w.heap.size #[.string t.key, .bool t.equal, .string t.value, .int .i64 t.effect] rfl rfl 30 [.string ⟨#[]⟩, .bool false, .string ⟨#[]⟩, .int .i64 0] hd.2.2.1 TrydsizeTo rfl (by simp [Value.oneCell']) ?_
        have r1 := setRow_low (vs := #[.string t.key, .bool t.equal, .string t.value, .int .i64 t.effect]) hd.1 (show b5 ≠ w.heap.size by omega)
        have r2 := setRow_low (vs := #[.string t.key, .bool t.equal, .string t.value, .int .i64 t.effect]) hd.2.1 (show b6 ≠ w.heap.size by omega)
        have r3 := hd.2.2.1.set (vs := [.string t.key, .bool t.equal, .string t.value, .int .i64 t.effect])
        have r4 := setRow_low (vs := #[.string t.key, .bool t.equal, .string t.value, .int .i64 t.effect]) hd.2.2.2.1 (show w.heap.size + 1 ≠ w.heap.size by omega)
        have r5 := setRow_below hd.2.2.2.2 (Nat.le_refl _) #[.string t.key, .bool t.equal, .string t.value, .int .i64 t.effect]
        refine hK.out _ _ ?_ (fun hHeld => ?_)
        · exact KS.out _ r1 r2
        clear hK K
        try simp only [Act.put, List.setIfInBounds_toArray, List.set_cons_zero, List.set_cons_succ, List.getElem_toArray, List.getElem_cons_zero, List.getElem_cons_succ]
        refine wpAnyH_ready (rs := [3]) (by kernel_rfl) (by simp) ?_
        refine AllReadyH.cons rfl (fun K hK => ?_) ?_
        · refine step_store_rowH rfl 32 _ _ rfl (w.heap.size + 1) #[.string x.key, .string t.value, .int .i64 x.effect] rfl rfl 32 [.string ⟨#[]⟩, .string ⟨#[]⟩, .int .i64 0] r4 TrydsizeTn rfl (by simp [Value.oneCell']) ?_
          have r6 := setRow_low (vs := #[.string x.key, .string t.value, .int .i64 x.effect]) r1 (show b5 ≠ w.heap.size + 1 by omega)
          have r7 := setRow_low (vs := #[.string x.key, .string t.value, .int .i64 x.effect]) r2 (show b6 ≠ w.heap.size + 1 by omega)
          have r8 := setRow_low (vs := #[.string x.key, .string t.value, .int .i64 x.effect]) r3 (show w.heap.size ≠ w.heap.size + 1 by omega)
          have r9 := r4.set (vs := [.string x.key, .string t.value, .int .i64 x.effect])
          have r10 := setRow_below r5 (Nat.le_succ _) #[.string x.key, .string t.value, .int .i64 x.effect]
          refine hK.out _ _ ?_ (fun hHeld => ?_)
          · exact KS.out _ r6 r7
          clear hK K
          try simp only [Act.put, List.setIfInBounds_toArray, List.set_cons_zero, List.set_cons_succ, List.getElem_toArray, List.getElem_cons_zero, List.getElem_cons_succ]
          refine wpAnyH_done (by kernel_rfl) ?_ _
          have R8 := Lib.hid r8
          have R9 := Lib.hid r9
          have HR := Lib.hid (show DrawnT w (.returned (.tuple #[.agg #[.string t.key, .bool t.equal, .string t.value, .int .i64 t.effect], .agg #[.string x.key, .string t.value, .int .i64 x.effect]])) _ from ⟨t, ⟨x.key, t.value, x.effect⟩, Ht.out, ⟨Hx.out.key, Ht.out.value, Hx.out.lo, Hx.out.hi⟩, rfl, r10⟩)
          clear r1 r2 r3 r4 r5 r6 r7 r8 r9 r10 hd hHeld
          go_wp2_with fail
          refine bodyPost_ret (v := .tuple #[.agg #[.string t.key, .bool t.equal, .string t.value, .int .i64 t.effect], .agg #[.string x.key, .string t.value, .int .i64 x.effect]]) ?_ rfl HR.out
          exact ret_tw rfl rfl rfl rfl rfl R8.out R9.out
        exact AllReadyH.nil
      exact AllReadyH.nil
  | true =>
    have t0 := S1.out.mt.cell 0 _ rfl
    have m0 := S1.out.mx.cell 0 _ rfl
    have f0 := RowE.frozen S1.out.mx 0
    have S2 := Lib.hid (S1.out.key h1c hc5 h56 t.key)
    obtain ⟨w5, hw5⟩ : ∃ q, q = w4.setCell ⟨b6, 0, none⟩ (.string t.key) := ⟨_, rfl⟩
    rw [← hw5] at S2
    have Hw5 := Lib.hid hw5
    clear S1 hw5 hc4
    have HO := Lib.hid (once_any c A len cap z 2 w5 S2.out.cur (by decide) (by decide))
    go_wp2_with fail
    rw [← Hw5.out]
    refine HO.out.mono ?_
    clear HO
    rintro e w6 ⟨q2, rfl, hc6, hg6⟩
    have S3 := Lib.hid (S2.out.turn h1c hc5 h56 hc6 hg6)
    clear hc6 hg6 S2
    cases q2 with
    | false =>
      go_wp2_with fail
      have hst := Lib.hid (show ∀ q, Below w6.heap.size w6 q → RowE 30 q b5 [.string t.key, .bool t.equal, .string t.value, .int .i64 t.effect] ∧ RowE 32 q b6 [.string t.key, .string x.value, .int .i64 x.effect] ∧ RowE 30 q w.heap.size [.string ⟨#[]⟩, .bool false, .string ⟨#[]⟩, .int .i64 0] ∧ RowE 32 q (w.heap.size + 1) [.string ⟨#[]⟩, .string ⟨#[]⟩, .int .i64 0] ∧ Below w.heap.size w q from fun q hb => ⟨S3.out.mt.below hb, S3.out.mx.below hb, S3.out.z1.below hb, S3.out.z2.below hb, below_link S3.out.bel hb S3.out.bel.size⟩)
      have KS := Lib.hid (show ∀ w', RowE 30 w' b5 [.string t.key, .bool t.equal, .string t.value, .int .i64 t.effect] → RowE 32 w' b6 [.string t.key, .string x.value, .int .i64 x.effect] → w'.cell? ⟨b5, 0, none⟩ = some (.string t.key) ∧ w'.cell? ⟨b5, 1, none⟩ = some (.bool t.equal) ∧ w'.cell? ⟨b5, 2, none⟩ = some (.string t.value) ∧ w'.cell? ⟨b5, 3, none⟩ = some (.int .i64 t.effect) ∧ w'.cell? ⟨b6, 0, none⟩ = some (.string t.key) ∧ w'.cell? ⟨b6, 1, none⟩ = some (.string x.value) ∧ w'.cell? ⟨b6, 2, none⟩ = some (.int .i64 x.effect) from fun w' h1 h2 => ⟨h1.cell 0 _ rfl, h1.cell 1 _ rfl, h1.cell 2 _ rfl, h1.cell 3 _ rfl, h2.cell 0 _ rfl, h2.cell 1 _ rfl, h2.cell 2 _ rfl⟩)
      have hd := hst.out (w6).drew ((Below.refl _ _).drew)
      refine wp_region_held_drew (S := (fun w' => w'.cell? ⟨b5, 0, none⟩ = some (.string t.key) ∧ w'.cell? ⟨b5, 1, none⟩ = some (.bool t.equal) ∧ w'.cell? ⟨b5, 2, none⟩ = some (.string t.value) ∧ w'.cell? ⟨b5, 3, none⟩ = some (.int .i64 t.effect) ∧ w'.cell? ⟨b6, 0, none⟩ = some (.string t.key) ∧ w'.cell? ⟨b6, 1, none⟩ = some (.string x.value) ∧ w'.cell? ⟨b6, 2, none⟩ = some (.int .i64 x.effect))) (by kernel_rfl) ?_ (fun hHeld => ?_)
      · exact KS.out _ hd.1 hd.2.1
      refine wpAnyH_take (i := 0) (v := ?_) rfl (by kernel_rfl) (by kernel_rfl) (by kernel_rfl) (fun _ _ _ h => h) (Or.inl ⟨by rfl, ?_⟩) (by assumption) ?_
      rotate_left
      · intro w' hSw
        try dsimp only at hSw
        go_simp
        try with_reducible rfl
      try simp only [Act.put, List.setIfInBounds_toArray, List.set_cons_zero, List.set_cons_succ, List.getElem_toArray, List.getElem_cons_zero, List.getElem_cons_succ]
      refine wpAnyH_take (i := 1) (v := ?_) rfl (by kernel_rfl) (by kernel_rfl) (by kernel_rfl) (fun _ _ _ h => h) (Or.inl ⟨by rfl, ?_⟩) (by assumption) ?_
      rotate_left
      · intro w' hSw
        try dsimp only at hSw
        go_simp
        try with_reducible rfl
      try simp only [Act.put, List.setIfInBounds_toArray, List.set_cons_zero, List.set_cons_succ, List.getElem_toArray, List.getElem_cons_zero, List.getElem_cons_succ]
      refine wpAnyH_ready (rs := [2]) (by kernel_rfl) (by simp) ?_
      refine AllReadyH.cons rfl (fun K hK => ?_) ?_
      · refine step_store_rowH rfl 30 _ _ rfl w.heap.size #[.string t.key, .bool t.equal, .string t.value, .int .i64 t.effect] rfl rfl 30 [.string ⟨#[]⟩, .bool false, .string ⟨#[]⟩, .int .i64 0] hd.2.2.1 TrydsizeTo rfl (by simp [Value.oneCell']) ?_
        have r1 := setRow_low (vs := #[.string t.key, .bool t.equal, .string t.value, .int .i64 t.effect]) hd.1 (show b5 ≠ w.heap.size by omega)
        have r2 := setRow_low (vs := #[.string t.key, .bool t.equal, .string t.value, .int .i64 t.effect]) hd.2.1 (show b6 ≠ w.heap.size by omega)
        have r3 := hd.2.2.1.set (vs := [.string t.key, .bool t.equal, .string t.value, .int .i64 t.effect])
        have r4 := setRow_low (vs := #[.string t.key, .bool t.equal, .string t.value, .int .i64 t.effect]) hd.2.2.2.1 (show w.heap.size + 1 ≠ w.heap.size by omega)
        have r5 := setRow_below hd.2.2.2.2 (Nat.le_refl _) #[.string t.key, .bool t.equal, .string t.value, .int .i64 t.effect]
        refine hK.out _ _ ?_ (fun hHeld => ?_)
        · exact KS.out _ r1 r2
        clear hK K
        try simp only [Act.put, List.setIfInBounds_toArray, List.set_cons_zero, List.set_cons_succ, List.getElem_toArray, List.getElem_cons_zero, List.getElem_cons_succ]
        refine wpAnyH_ready (rs := [3]) (by kernel_rfl) (by simp) ?_
        refine AllReadyH.cons rfl (fun K hK => ?_) ?_
        · refine step_store_rowH rfl 32 _ _ rfl (w.heap.size + 1) #[.string t.key, .string x.value, .int .i64 x.effect] rfl rfl 32 [.string ⟨#[]⟩, .string ⟨#[]⟩, .int .i64 0] r4 TrydsizeTn rfl (by simp [Value.oneCell']) ?_
          have r6 := setRow_low (vs := #[.string t.key, .string x.value, .int .i64 x.effect]) r1 (show b5 ≠ w.heap.size + 1 by omega)
          have r7 := setRow_low (vs := #[.string t.key, .string x.value, .int .i64 x.effect]) r2 (show b6 ≠ w.heap.size + 1 by omega)
          have r8 := setRow_low (vs := #[.string t.key, .string x.value, .int .i64 x.effect]) r3 (show w.heap.size ≠ w.heap.size + 1 by omega)
          have r9 := r4.set (vs := [.string t.key, .string x.value, .int .i64 x.effect])
          have r10 := setRow_below r5 (Nat.le_succ _) #[.string t.key, .string x.value, .int .i64 x.effect]
          refine hK.out _ _ ?_ (fun hHeld => ?_)
          · exact KS.out _ r6 r7
          clear hK K
          try simp only [Act.put, List.setIfInBounds_toArray, List.set_cons_zero, List.set_cons_succ, List.getElem_toArray, List.getElem_cons_zero, List.getElem_cons_succ]
          refine wpAnyH_done (by kernel_rfl) ?_ _
          have R8 := Lib.hid r8
          have R9 := Lib.hid r9
          have HR := Lib.hid (show DrawnT w (.returned (.tuple #[.agg #[.string t.key, .bool t.equal, .string t.value, .int .i64 t.effect], .agg #[.string t.key, .string x.value, .int .i64 x.effect]])) _ from ⟨t, ⟨t.key, x.value, x.effect⟩, Ht.out, ⟨Ht.out.key, Hx.out.value, Hx.out.lo, Hx.out.hi⟩, rfl, r10⟩)
          clear r1 r2 r3 r4 r5 r6 r7 r8 r9 r10 hd hHeld
          go_wp2_with fail
          refine bodyPost_ret (v := .tuple #[.agg #[.string t.key, .bool t.equal, .string t.value, .int .i64 t.effect], .agg #[.string t.key, .string x.value, .int .i64 x.effect]]) ?_ rfl HR.out
          exact ret_tw rfl rfl rfl rfl rfl R8.out R9.out
        exact AllReadyH.nil
      exact AllReadyH.nil
    | true =>
      have t2 := S3.out.mt.cell 2 _ rfl
      have m1 := S3.out.mx.cell 1 _ rfl
      have f1 := RowE.frozen S3.out.mx 1
      have S4 := Lib.hid (S3.out.val h1c hc5 h56 t.value)
      obtain ⟨w7, hw7⟩ : ∃ q, q = w6.setCell ⟨b6, 1, none⟩ (.string t.value) := ⟨_, rfl⟩
      rw [← hw7] at S4
      have Hw7 := Lib.hid hw7
      clear S3 hw7
      go_wp2_with fail
      rw [← Hw7.out]
      have hst := Lib.hid (show ∀ q, Below w7.heap.size w7 q → RowE 30 q b5 [.string t.key, .bool t.equal, .string t.value, .int .i64 t.effect] ∧ RowE 32 q b6 [.string t.key, .string t.value, .int .i64 x.effect] ∧ RowE 30 q w.heap.size [.string ⟨#[]⟩, .bool false, .string ⟨#[]⟩, .int .i64 0] ∧ RowE 32 q (w.heap.size + 1) [.string ⟨#[]⟩, .string ⟨#[]⟩, .int .i64 0] ∧ Below w.heap.size w q from fun q hb => ⟨S4.out.mt.below hb, S4.out.mx.below hb, S4.out.z1.below hb, S4.out.z2.below hb, below_link S4.out.bel hb S4.out.bel.size⟩)
      have KS := Lib.hid (show ∀ w', RowE 30 w' b5 [.string t.key, .bool t.equal, .string t.value, .int .i64 t.effect] → RowE 32 w' b6 [.string t.key, .string t.value, .int .i64 x.effect] → w'.cell? ⟨b5, 0, none⟩ = some (.string t.key) ∧ w'.cell? ⟨b5, 1, none⟩ = some (.bool t.equal) ∧ w'.cell? ⟨b5, 2, none⟩ = some (.string t.value) ∧ w'.cell? ⟨b5, 3, none⟩ = some (.int .i64 t.effect) ∧ w'.cell? ⟨b6, 0, none⟩ = some (.string t.key) ∧ w'.cell? ⟨b6, 1, none⟩ = some (.string t.value) ∧ w'.cell? ⟨b6, 2, none⟩ = some (.int .i64 x.effect) from fun w' h1 h2 => ⟨h1.cell 0 _ rfl, h1.cell 1 _ rfl, h1.cell 2 _ rfl, h1.cell 3 _ rfl, h2.cell 0 _ rfl, h2.cell 1 _ rfl, h2.cell 2 _ rfl⟩)
      have hd := hst.out (w7).drew ((Below.refl _ _).drew)
      refine wp_region_held_drew (S := (fun w' => w'.cell? ⟨b5, 0, none⟩ = some (.string t.key) ∧ w'.cell? ⟨b5, 1, none⟩ = some (.bool t.equal) ∧ w'.cell? ⟨b5, 2, none⟩ = some (.string t.value) ∧ w'.cell? ⟨b5, 3, none⟩ = some (.int .i64 t.effect) ∧ w'.cell? ⟨b6, 0, none⟩ = some (.string t.key) ∧ w'.cell? ⟨b6, 1, none⟩ = some (.string t.value) ∧ w'.cell? ⟨b6, 2, none⟩ = some (.int .i64 x.effect))) (by kernel_rfl) ?_ (fun hHeld => ?_)
      · exact KS.out _ hd.1 hd.2.1
      refine wpAnyH_take (i := 0) (v := ?_) rfl (by kernel_rfl) (by kernel_rfl) (by kernel_rfl) (fun _ _ _ h => h) (Or.inl ⟨by rfl, ?_⟩) (by assumption) ?_
      rotate_left
      · intro w' hSw
        try dsimp only at hSw
        go_simp
        try with_reducible rfl
      try simp only [Act.put, List.setIfInBounds_toArray, List.set_cons_zero, List.set_cons_succ, List.getElem_toArray, List.getElem_cons_zero, List.getElem_cons_succ]
      refine wpAnyH_take (i := 1) (v := ?_) rfl (by kernel_rfl) (by kernel_rfl) (by kernel_rfl) (fun _ _ _ h => h) (Or.inl ⟨by rfl, ?_⟩) (by assumption) ?_
      rotate_left
      · intro w' hSw
        try dsimp only at hSw
        go_simp
        try with_reducible rfl
      try simp only [Act.put, List.setIfInBounds_toArray, List.set_cons_zero, List.set_cons_succ, List.getElem_toArray, List.getElem_cons_zero, List.getElem_cons_succ]
      refine wpAnyH_ready (rs := [2]) (by kernel_rfl) (by simp) ?_
      refine AllReadyH.cons rfl (fun K hK => ?_) ?_
      · refine step_store_rowH rfl 30 _ _ rfl w.heap.size #[.string t.key, .bool t.equal, .string t.value, .int .i64 t.effect] rfl rfl 30 [.string ⟨#[]⟩, .bool false, .string ⟨#[]⟩, .int .i64 0] hd.2.2.1 TrydsizeTo rfl (by simp [Value.oneCell']) ?_
        have r1 := setRow_low (vs := #[.string t.key, .bool t.equal, .string t.value, .int .i64 t.effect]) hd.1 (show b5 ≠ w.heap.size by omega)
        have r2 := setRow_low (vs := #[.string t.key, .bool t.equal, .string t.value, .int .i64 t.effect]) hd.2.1 (show b6 ≠ w.heap.size by omega)
        have r3 := hd.2.2.1.set (vs := [.string t.key, .bool t.equal, .string t.value, .int .i64 t.effect])
        have r4 := setRow_low (vs := #[.string t.key, .bool t.equal, .string t.value, .int .i64 t.effect]) hd.2.2.2.1 (show w.heap.size + 1 ≠ w.heap.size by omega)
        have r5 := setRow_below hd.2.2.2.2 (Nat.le_refl _) #[.string t.key, .bool t.equal, .string t.value, .int .i64 t.effect]
        refine hK.out _ _ ?_ (fun hHeld => ?_)
        · exact KS.out _ r1 r2
        clear hK K
        try simp only [Act.put, List.setIfInBounds_toArray, List.set_cons_zero, List.set_cons_succ, List.getElem_toArray, List.getElem_cons_zero, List.getElem_cons_succ]
        refine wpAnyH_ready (rs := [3]) (by kernel_rfl) (by simp) ?_
        refine AllReadyH.cons rfl (fun K hK => ?_) ?_
        · refine step_store_rowH rfl 32 _ _ rfl (w.heap.size + 1) #[.string t.key, .string t.value, .int .i64 x.effect] rfl rfl 32 [.string ⟨#[]⟩, .string ⟨#[]⟩, .int .i64 0] r4 TrydsizeTn rfl (by simp [Value.oneCell']) ?_
          have r6 := setRow_low (vs := #[.string t.key, .string t.value, .int .i64 x.effect]) r1 (show b5 ≠ w.heap.size + 1 by omega)
          have r7 := setRow_low (vs := #[.string t.key, .string t.value, .int .i64 x.effect]) r2 (show b6 ≠ w.heap.size + 1 by omega)
          have r8 := setRow_low (vs := #[.string t.key, .string t.value, .int .i64 x.effect]) r3 (show w.heap.size ≠ w.heap.size + 1 by omega)
          have r9 := r4.set (vs := [.string t.key, .string t.value, .int .i64 x.effect])
          have r10 := setRow_below r5 (Nat.le_succ _) #[.string t.key, .string t.value, .int .i64 x.effect]
          refine hK.out _ _ ?_ (fun hHeld => ?_)
          · exact KS.out _ r6 r7
          clear hK K
          try simp only [Act.put, List.setIfInBounds_toArray, List.set_cons_zero, List.set_cons_succ, List.getElem_toArray, List.getElem_cons_zero, List.getElem_cons_succ]
          refine wpAnyH_done (by kernel_rfl) ?_ _
          have R8 := Lib.hid r8
          have R9 := Lib.hid r9
          have HR := Lib.hid (show DrawnT w (.returned (.tuple #[.agg #[.string t.key, .bool t.equal, .string t.value, .int .i64 t.effect], .agg #[.string t.key, .string t.value, .int .i64 x.effect]])) _ from ⟨t, ⟨t.key, t.value, x.effect⟩, Ht.out, ⟨Ht.out.key, Ht.out.value, Hx.out.lo, Hx.out.hi⟩, rfl, r10⟩)
          clear r1 r2 r3 r4 r5 r6 r7 r8 r9 r10 hd hHeld
          go_wp2_with fail
          refine bodyPost_ret (v := .tuple #[.agg #[.string t.key, .bool t.equal, .string t.value, .int .i64 t.effect], .agg #[.string t.key, .string t.value, .int .i64 x.effect]]) ?_ rfl HR.out
          exact ret_tw rfl rfl rfl rfl rfl R8.out R9.out
        exact AllReadyH.nil
      exact AllReadyH.nil
end Go.Proofs.YtpadpiibiocabaaDoor.draw
