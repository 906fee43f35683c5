/- spec.DrawSelects, spec.DrawNeedMet. -/
import Derived.Test.YtjcfaepklakpkaaDoorDrawNy
import Derived.Test.YtjcfaepklakpkaaDoorDrawList
import Derived.Test.YtjcfaepklakpkaaDoorBigL
namespace Go.Proofs.YtjcfaepklakpkaaDoor.draw
open Go.ChangeShapes Go.WideShapes Go.ChangeAt Go.RowKit ty lab need dedup
set_option linter.unusedVariables false

theorem ret_need {fn : Func} {c u : Tmp} {tmps : Array Value} {w : World} {g : Nat} {us : Array Value} {x : Value} (h : fn.results = #[.tmp u, .cell c 30])
    (hc : tmps.getD c undef = .pointer (some ⟨g, 0, none⟩)) (hu : tmps.getD u undef = x) (hsz : us.size = 3)
    (hg : w.heap[g]? = some (.cells us 30 (0, 0))) : (results fn tmps).run Tryd.prog w = .ok (.tuple #[x, .agg us]) w := by
  have hl := run_loadVar_row (P := Tryd.prog) w g _ 30 us (0, 0) _ hg Tryd.underlying30 rfl (by rw [hsz]; exact sizeNeed)
  have e : (results fn tmps).run Tryd.prog w = ((asAddr (tmps.getD c undef)).run Tryd.prog w).andThen fun a w1 => ((loadVar 30 a).run Tryd.prog w1).andThen fun v w2 => .ok (.tuple #[tmps.getD u undef, v]) w2 := by
    simp only [results, h]
    simp [Sem.run_bind, Result.andThen]
  rw [e, hc, hu]
  simp [asAddr, Result.andThen, hl]
theorem row_otherN {w : World} {g x : Nat} {vs : Array Value} (h : x ≠ g) : (w.setRow g vs).heap[x]? = w.heap[x]? := by
  simp only [World.setRow, Array.getElem?_modify]
  rw [if_neg (fun e => h e.symm)]
/-- Drawn requirements and labels. -/
def SelDrawn (w : World) (e : Ending) (w' : World) : Prop :=
  ∃ (l : List Need) (labs : List Label) (v v2 : Value) (f f2 : Nat), TinyL 11 4 l ∧ labs.length ≤ 6 ∧ e = .returned (.tuple #[v, v2]) ∧ Lies w' f v (.sl 3 l.length (l.flatMap Need.row)) ∧ Lies w' f2 v2 (.sl 2 labs.length (labs.flatMap Label.row)) ∧ Below w.heap.size w w'
/-- A drawn requirement, beside something. -/
def MetDrawn (w : World) (e : Ending) (w' : World) : Prop :=
  ∃ (x : Need) (v : Value) (us : List Value), TinyN 4 x ∧ e = .returned (.tuple #[v, .agg us.toArray]) ∧ LiesS w' 2 us x.row ∧ Below w.heap.size w w'
set_option maxRecDepth 1000000 in
set_option maxHeartbeats 8000000 in
theorem selects_any (A : Option Addr) (len cap : Nat) (zs : List Int) (w : World) (hr : IsRow .u8 w A len cap zs) (hlen : len ≤ 1048576) :
    Calls Tryd.prog 10 #[.slice A len cap] w fun e w' => SelDrawn w e w' := by
  have HN := Lib.hid (new_any A len cap zs w hr hlen)
  clear hr
  go_enter Tryd.func10, Tryd.ntmps10
  go_wp2_with fail
  refine HN.out.mono ?_
  clear HN
  rintro e w1 ⟨c, rfl, hcw, hc, hb1⟩
  generalize (fun j => zs.getD j 0) = z at hc
  have HA := Lib.hid (anyN_any c A len cap z w1 hc)
  have hcl := hc.lt
  clear hc
  go_wp2_with fail
  refine HA.out.mono ?_
  clear HA
  rintro e w2 ⟨l, v, f, F, hl, rfl, ho, hnd, hc2, hg2⟩
  have hb2 := hb1.grown hg2 hb1.size (fun b hb => by injection hb with hb; omega)
  have HL := Lib.hid (labs_any c A len cap z w2 hc2)
  obtain ⟨A2, c2, rfl, _⟩ := els_of Need.row_length ho.lies
  have Ho := Lib.hid ho
  have Hb2 := Lib.hid hb2
  have Hl := Lib.hid hl
  clear ho hnd hc2 hg2 hb1 hb2 hl
  go_wp2_with fail
  refine HL.out.mono ?_
  rintro e w3 ⟨labs, v3, f3, F3, ⟨hl6, _⟩, rfl, ho3, hnd3, hc3, hg3⟩
  obtain ⟨A3, c3, rfl, _⟩ := els_of Label.row_length ho3.lies
  have HR := Lib.hid (show SelDrawn w (.returned (.tuple #[.slice A2 l.length c2, .slice A3 labs.length c3])) w3 from
    ⟨l, labs, _, _, _, _, Hl.out, hl6, rfl, (own_curN Ho.out hcl hg3).lies, ho3.lies, Hb2.out.grown hg3 Hb2.out.size (fun b hb => by injection hb with hb; omega)⟩)
  clear HL Ho Hb2 Hl ho3 hnd3 hc3 hg3 hl6
  go_wp2_with fail
  go_ret2
  exact HR.out
set_option maxRecDepth 1000000 in
set_option maxHeartbeats 8000000 in
theorem met_any (A : Option Addr) (len cap : Nat) (zs : List Int) (w : World) (hr : IsRow .u8 w A len cap zs) (hlen : len ≤ 1048576) :
    Calls Tryd.prog 11 #[.slice A len cap] w fun e w' => MetDrawn w e w' := by
  obtain ⟨W, hW⟩ : ∃ W, W = w.alloc (.cells #[.string ⟨#[]⟩, .int .i64 0, .slice none 0 0] 30) := ⟨_, rfl⟩
  have h0 : W.heap[w.heap.size]? = some (.cells #[.string ⟨#[]⟩, .int .i64 0, .slice none 0 0] 30 (0, 0)) := by rw [hW]; exact heap_alloc_new w _
  have hbW : Below w.heap.size w W := by rw [hW]; exact (Below.refl _ _).alloc (Nat.le_refl _) _
  have hWs : W.heap.size = w.heap.size + 1 := by rw [hW]; simp
  have HN := Lib.hid (new_any A len cap zs W (hr.below hbW) hlen)
  have HW := Lib.hid hW
  have H0 := Lib.hid h0
  have HbW := Lib.hid hbW
  clear hr hW h0 hbW
  go_enter Tryd.func11, Tryd.ntmps11
  go_wp2_with fail
  rw [← HW.out]
  go_wp2_with fail
  refine HN.out.mono ?_
  clear HN
  rintro e w1 ⟨c, rfl, hcw, hc, hb1⟩
  generalize (fun j => zs.getD j 0) = z at hc
  have HL := Lib.hid (labs_any c A len cap z w1 hc)
  have hcl := hc.lt
  have hb01 : Below w.heap.size w w1 := below_link HbW.out hb1 HbW.out.size
  have H01 := Lib.hid (heap_kept hb1 (heap_lt H0.out) H0.out)
  have Hb01 := Lib.hid hb01
  clear hc hb1 hb01 H0 HbW HW
  go_wp2_with fail
  refine HL.out.mono ?_
  rintro e w2 ⟨labs, v2, f2, F2, _, rfl, ho2, hnd2, hc2, hg2⟩
  obtain ⟨A2, c2, rfl, _⟩ := els_of Label.row_length ho2.lies
  have HA := Lib.hid (anyneed_any c A len cap z w2 hc2)
  have H02 := Lib.hid (heap_cur H01.out (by omega) hg2)
  have Hb02 := Lib.hid (Hb01.out.grown hg2 Hb01.out.size (fun b hb => by injection hb with hb; omega))
  clear HL ho2 hnd2 hc2 hg2 H01 Hb01
  go_wp2_with fail
  refine HA.out.mono ?_
  rintro e w3 ⟨x, us, F, hx, rfl, hoG, hnG, hc3, hg3⟩
  obtain ⟨u0, u1, u2, rfl⟩ := us3 hoG
  have h03 := heap_cur H02.out (by omega) hg3
  have hb03 := Hb02.out.grown hg3 Hb02.out.size (fun b hb => by injection hb with hb; omega)
  have hlt2 : w.heap.size < w2.heap.size := heap_lt H02.out
  have hone := all_oneCell_toArray hoG.ones
  have HR := Lib.hid (show ∀ v, MetDrawn w (.returned (.tuple #[v, .agg #[u0, u1, u2]])) (w3.setRow w.heap.size #[u0, u1, u2]) from fun v =>
    ⟨x, v, [u0, u1, u2], hx, rfl, (OwnS.kept (fun q hq => row_otherN (by have := (hoG.range q hq).1; omega)) hoG).lies, setRow_below hb03 (Nat.le_refl _) _⟩)
  have H03 := Lib.hid h03
  clear HA H02 Hb02 hx hoG hnG hc3 hg3 hb03
  go_wp2_with (first | (refine wpList_store_row rfl 30 _ _ rfl w.heap.size #[u0, u1, u2] rfl rfl 30 _ h03 sizeNeed rfl hone ?_) | fail)
  refine bodyPost_ret (v := .tuple #[.slice A2 labs.length c2, .agg #[u0, u1, u2]]) ?_ rfl (HR.out _)
  exact ret_need rfl rfl rfl rfl (setRow_at H03.out)
end Go.Proofs.YtjcfaepklakpkaaDoor.draw
