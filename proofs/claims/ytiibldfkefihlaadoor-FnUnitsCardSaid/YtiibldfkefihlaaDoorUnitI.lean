/- impl.UnitOf over impl.unitsBySuffix: the map of the units by suffix. -/
import Derived.Test.YtiibldfkefihlaaDoorUnitM
import Derived.Maps.OwnSet
namespace Go.Proofs.YtiibldfkefihlaaDoor.unit
open Go.ChangeShapes Go.WideShapes Go.ChangeAt Go.RowKit Go.Maps Go.WideMaps
set_option linter.unusedVariables false

/-- An entry of a map literal at the operation. -/
theorem wpList_insert_own {H : Type} {P : Program} (w : World) {ops : Array Oper} {rest : List Oper} {o : Oper} {a : Act} {Q : Exit → Act → World → Prop}
    (hg : o.guard = none) (m x v : Operand) (t : TypeId) (hop : o.op = Op.insert t m x v)
    (k e : TypeId) (K : Keyed P k) (ht : P.underlying t = some (.map k e)) (R : Value → Option (DataW H × List MemPlace)) (b n : Nat) (D : DataW H)
    (hm : a.eval m = .map (some b)) (hown : w.ownsMap P k R b n D) (hn : n < maxLen) (key val : Value) (kl : Lit) (hx : a.eval x = key) (hv : a.eval v = val) (hkey : keyOf P k key = some kl)
    (d : DataW H) (ps : List MemPlace) (hval : R val = some (d, ps))
    (hK : ∀ w', w'.ownsMap P k R b (n + 1) (D.put kl d) → w.grownBy w' (some b) → wpList P ops Q rest (a.put o.dst undef) w') :
    wpList P ops Q (o :: rest) a w := by
  refine wpList_plain hg fun K' hK' => ?_
  obtain ⟨w', hrun, r1, r2⟩ := hown.update K ht hn hkey hval
  unfold Oper.wp
  simp [execOp, hop, hm, hx, hv, hrun, Result.andThen]
  exact hK' _ _ (hK w' r1 r2)

theorem law : Keyed Tryd.prog 9 := string_keyed Tryd.underlying9
theorem zeroE (w : World) : (zeroValue 3).run Tryd.prog w = .ok (.int .i64 0) w := by kernel_rfl
def D : DataW Unit := (names.zip vals).foldl (fun m p => m.put (.string p.1) (.lit (.int .i64 p.2))) (.map [])
theorem D_out : D = (((((((((((DataW.map [] : DataW Unit).put (.string []) (.lit (.int .i64 1000))).put (.string [109]) (.lit (.int .i64 1))).put (.string [107]) (.lit (.int .i64 1000000))).put (.string [77]) (.lit (.int .i64 1000000000))).put (.string [71]) (.lit (.int .i64 1000000000000))).put (.string [84]) (.lit (.int .i64 1000000000000000))).put (.string [75, 105]) (.lit (.int .i64 1024000))).put (.string [77, 105]) (.lit (.int .i64 1048576000))).put (.string [71, 105]) (.lit (.int .i64 1073741824000))).put (.string [84, 105]) (.lit (.int .i64 1099511627776000))) := rfl
theorem hit_all : (List.range 10).all (fun j => match D.atKey (.string (names.getD j [])) (.lit (.int .i64 0)) with | .lit (.int .i64 c) => c == vals.getD j 0 && Maps.has D (.string (names.getD j [])) | _ => false) = true := by decide +kernel
theorem hit_at (j : Nat) (h : j < 10) : D.atKey (.string (names.getD j [])) (.lit (.int .i64 0)) = .lit (.int .i64 (vals.getD j 0)) ∧ Maps.has D (.string (names.getD j [])) = true := by
  have h1 := List.all_eq_true.1 hit_all j (List.mem_range.2 h)
  split at h1
  · next c hc =>
    simp only [Bool.and_eq_true, beq_iff_eq] at h1
    rw [hc, h1.1]
    exact ⟨rfl, h1.2⟩
  · cases h1
theorem miss_at {l : List UInt8} (h : ∀ j, j < 10 → names.getD j [] ≠ l) : Maps.has D (.string l) = false := by
  have hne : ∀ j, j < 10 → (Lit.string l) ≠ .string (names.getD j []) := fun j hj e => h j hj (by injection e with e; exact e.symm)
  rw [D_out]
  have h0 : (Lit.string l) ≠ .string [] := hne 0 (by decide)
  have h1 : (Lit.string l) ≠ .string [109] := hne 1 (by decide)
  have h2 : (Lit.string l) ≠ .string [107] := hne 2 (by decide)
  have h3 : (Lit.string l) ≠ .string [77] := hne 3 (by decide)
  have h4 : (Lit.string l) ≠ .string [71] := hne 4 (by decide)
  have h5 : (Lit.string l) ≠ .string [84] := hne 5 (by decide)
  have h6 : (Lit.string l) ≠ .string [75, 105] := hne 6 (by decide)
  have h7 : (Lit.string l) ≠ .string [77, 105] := hne 7 (by decide)
  have h8 : (Lit.string l) ≠ .string [71, 105] := hne 8 (by decide)
  have h9 : (Lit.string l) ≠ .string [84, 105] := hne 9 (by decide)
  rw [has_put_other h9, has_put_other h8, has_put_other h7, has_put_other h6, has_put_other h5, has_put_other h4, has_put_other h3, has_put_other h2, has_put_other h1, has_put_other h0]
  rfl
theorem look (l : List UInt8) : D.atKey (.string l) (.lit (.int .i64 0)) = .lit (.int .i64 (arith.val (unitL l))) ∧ Maps.has D (.string l) = arith.has (unitL l) := by
  rcases or_miss l with ⟨j, hj, rfl⟩ | h
  · rw [hit j hj]
    exact hit_at j hj
  · rw [miss h]
    have h1 := miss_at h
    exact ⟨atKey_of_not_has h1 _, h1⟩

set_option maxRecDepth 100000 in
theorem units_any (w : World) :
    Calls Tryd.prog 46 #[] w fun e w' => e = .returned (.map (some w.heap.size)) ∧ w'.ownsMap Tryd.prog 9 (plainElem Tryd.prog 3) w.heap.size 10 D ∧ Below w.heap.size w w' := by
  have hmm := @run_makeMap Tryd.prog
  go_enter Tryd.func46, Tryd.ntmps46
  have hown := World.ownsMap_made w Tryd.prog 9 (plainElem (H := Unit) Tryd.prog 3)
  have hb : Below w.heap.size w (w.alloc (.map #[] 0)) := (Below.refl _ _).alloc (Nat.le_refl _) _
  go_wp2_with (first | (refine wpList_insert_own _ rfl _ _ _ 55 rfl 9 3 law Tryd.underlying55 _ w.heap.size 0 _ rfl hown (by decide) (.string ⟨#[]⟩) (.int .i64 1000) (.string []) rfl rfl (keyOf_string_mk Tryd.underlying9 (by decide)) (.lit (.int .i64 1000)) [] (plainElem_int Tryd.underlying3 (by decide)) ?_) | fail)
  clear hown
  intro w1 hown hg
  replace hb := hb.grown hg hb.size (fun j hj => by cases hj; exact Nat.le_refl _)
  clear hg
  go_wp2_with (first | (refine wpList_insert_own _ rfl _ _ _ 55 rfl 9 3 law Tryd.underlying55 _ w.heap.size 1 _ rfl hown (by decide) (.string ⟨#[109]⟩) (.int .i64 1) (.string [109]) rfl rfl (keyOf_string_mk Tryd.underlying9 (by decide)) (.lit (.int .i64 1)) [] (plainElem_int Tryd.underlying3 (by decide)) ?_) | fail)
  clear hown
  intro w2 hown hg
  replace hb := hb.grown hg hb.size (fun j hj => by cases hj; exact Nat.le_refl _)
  clear hg
  go_wp2_with (first | (refine wpList_insert_own _ rfl _ _ _ 55 rfl 9 3 law Tryd.underlying55 _ w.heap.size 2 _ rfl hown (by decide) (.string ⟨#[107]⟩) (.int .i64 1000000) (.string [107]) rfl rfl (keyOf_string_mk Tryd.underlying9 (by decide)) (.lit (.int .i64 1000000)) [] (plainElem_int Tryd.underlying3 (by decide)) ?_) | fail)
  clear hown
  intro w3 hown hg
  replace hb := hb.grown hg hb.size (fun j hj => by cases hj; exact Nat.le_refl _)
  clear hg
  go_wp2_with (first | (refine wpList_insert_own _ rfl _ _ _ 55 rfl 9 3 law Tryd.underlying55 _ w.heap.size 3 _ rfl hown (by decide) (.string ⟨#[77]⟩) (.int .i64 1000000000) (.string [77]) rfl rfl (keyOf_string_mk Tryd.underlying9 (by decide)) (.lit (.int .i64 1000000000)) [] (plainElem_int Tryd.underlying3 (by decide)) ?_) | fail)
  clear hown
  intro w4 hown hg
  replace hb := hb.grown hg hb.size (fun j hj => by cases hj; exact Nat.le_refl _)
  clear hg
  go_wp2_with (first | (refine wpList_insert_own _ rfl _ _ _ 55 rfl 9 3 law Tryd.underlying55 _ w.heap.size 4 _ rfl hown (by decide) (.string ⟨#[71]⟩) (.int .i64 1000000000000) (.string [71]) rfl rfl (keyOf_string_mk Tryd.underlying9 (by decide)) (.lit (.int .i64 1000000000000)) [] (plainElem_int Tryd.underlying3 (by decide)) ?_) | fail)
  clear hown
  intro w5 hown hg
  replace hb := hb.grown hg hb.size (fun j hj => by cases hj; exact Nat.le_refl _)
  clear hg
  go_wp2_with (first | (refine wpList_insert_own _ rfl _ _ _ 55 rfl 9 3 law Tryd.underlying55 _ w.heap.size 5 _ rfl hown (by decide) (.string ⟨#[84]⟩) (.int .i64 1000000000000000) (.string [84]) rfl rfl (keyOf_string_mk Tryd.underlying9 (by decide)) (.lit (.int .i64 1000000000000000)) [] (plainElem_int Tryd.underlying3 (by decide)) ?_) | fail)
  clear hown
  intro w6 hown hg
  replace hb := hb.grown hg hb.size (fun j hj => by cases hj; exact Nat.le_refl _)
  clear hg
  go_wp2_with (first | (refine wpList_insert_own _ rfl _ _ _ 55 rfl 9 3 law Tryd.underlying55 _ w.heap.size 6 _ rfl hown (by decide) (.string ⟨#[75, 105]⟩) (.int .i64 1024000) (.string [75, 105]) rfl rfl (keyOf_string_mk Tryd.underlying9 (by decide)) (.lit (.int .i64 1024000)) [] (plainElem_int Tryd.underlying3 (by decide)) ?_) | fail)
  clear hown
  intro w7 hown hg
  replace hb := hb.grown hg hb.size (fun j hj => by cases hj; exact Nat.le_refl _)
  clear hg
  go_wp2_with (first | (refine wpList_insert_own _ rfl _ _ _ 55 rfl 9 3 law Tryd.underlying55 _ w.heap.size 7 _ rfl hown (by decide) (.string ⟨#[77, 105]⟩) (.int .i64 1048576000) (.string [77, 105]) rfl rfl (keyOf_string_mk Tryd.underlying9 (by decide)) (.lit (.int .i64 1048576000)) [] (plainElem_int Tryd.underlying3 (by decide)) ?_) | fail)
  clear hown
  intro w8 hown hg
  replace hb := hb.grown hg hb.size (fun j hj => by cases hj; exact Nat.le_refl _)
  clear hg
  go_wp2_with (first | (refine wpList_insert_own _ rfl _ _ _ 55 rfl 9 3 law Tryd.underlying55 _ w.heap.size 8 _ rfl hown (by decide) (.string ⟨#[71, 105]⟩) (.int .i64 1073741824000) (.string [71, 105]) rfl rfl (keyOf_string_mk Tryd.underlying9 (by decide)) (.lit (.int .i64 1073741824000)) [] (plainElem_int Tryd.underlying3 (by decide)) ?_) | fail)
  clear hown
  intro w9 hown hg
  replace hb := hb.grown hg hb.size (fun j hj => by cases hj; exact Nat.le_refl _)
  clear hg
  go_wp2_with (first | (refine wpList_insert_own _ rfl _ _ _ 55 rfl 9 3 law Tryd.underlying55 _ w.heap.size 9 _ rfl hown (by decide) (.string ⟨#[84, 105]⟩) (.int .i64 1099511627776000) (.string [84, 105]) rfl rfl (keyOf_string_mk Tryd.underlying9 (by decide)) (.lit (.int .i64 1099511627776000)) [] (plainElem_int Tryd.underlying3 (by decide)) ?_) | fail)
  clear hown
  intro w10 hown hg
  replace hb := hb.grown hg hb.size (fun j hj => by cases hj; exact Nat.le_refl _)
  clear hg
  go_wp2_with fail
  go_ret
  exact ⟨rfl, by rw [D_out]; exact hown, hb⟩

set_option maxRecDepth 100000 in
theorem impl_any (s : ByteArray) (w : World) (hs : s.size ≤ maxLen) :
    Calls Tryd.prog 28 #[.string s] w fun e w' => e = .returned (arith.two (unitF s)) ∧ Below w.heap.size w w' := by
  have HU := Lib.hid (units_any w)
  have hkey : keyOf Tryd.prog 9 (.string s) = some (.string s.data.toList) := keyOf_string_mk Tryd.underlying9 hs
  have HL := Lib.hid (look s.data.toList)
  go_enter Tryd.func28, Tryd.ntmps28
  go_wp2_with fail
  refine HU.out.mono ?_
  rintro e w1 ⟨rfl, hown, hb⟩
  clear HU
  go_wp2_with (at_lookup; refine wpList_lookup_own_ok_int _ rfl _ _ 55 rfl 9 3 .i64 law Tryd.underlying55 Tryd.underlying3 (zeroE _) w.heap.size 10 D rfl hown _ _ rfl hkey ?_)
  intro c hat hwc
  rw [HL.out.1] at hat
  rw [HL.out.2]
  obtain rfl : arith.val (unitL s.data.toList) = c := by injection hat with hat; injection hat
  clear hat hwc hown hkey
  go_wp2_with fail
  go_ret2
  exact ⟨rfl, hb⟩
end Go.Proofs.YtiibldfkefihlaaDoor.unit
